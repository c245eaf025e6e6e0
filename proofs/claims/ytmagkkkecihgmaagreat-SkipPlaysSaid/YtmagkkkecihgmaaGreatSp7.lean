/-
  Package skip, part 7: ask; insert.
-/
import Derived.Test.YtmagkkkecihgmaaGreatSp6
import Derived.Test.YtmagkkkecihgmaaGreatNet1
namespace Go.Proofs.YtmagkkkecihgmaaGreat
open Go.RowKit

set_option maxHeartbeats 400000 in
theorem ask_nil (w : World) : Calls Tryz.prog 30 #[.pointer none] w fun e w' => e = gaveUp 1 ∧ w' = w := by
  go_enter Tryz.func30, Tryz.ntmps30
  go_wp2_with fail
  exact ⟨rfl, rfl, rfl⟩
set_option maxHeartbeats 400000 in
theorem ask_froz {p : Nat} (w : World) (h : w.cell? ⟨p, 27, none⟩ = some (.bool true)) : Calls Tryz.prog 30 #[.pointer (some ⟨p, 0, none⟩)] w fun e w' => e = gaveUp 30 ∧ w' = w := by
  go_enter Tryz.func30, Tryz.ntmps30
  go_wp2_with fail
  exact ⟨rfl, rfl, rfl⟩
set_option maxHeartbeats 400000 in
theorem ask_ok {p : Nat} (w : World) (h : w.cell? ⟨p, 27, none⟩ = some (.bool false)) : Calls Tryz.prog 30 #[.pointer (some ⟨p, 0, none⟩)] w fun e w' => e = .returned (.tuple #[]) ∧ w' = w := by
  go_enter Tryz.func30, Tryz.ntmps30
  go_wp2_with fail
  go_end0
  exact ⟨rfl, rfl⟩

def cntM (L : List P10) (t h : Nat) : Int := (cntL L h : Int) + if h < t then 1 else 0
/-- The blocks that insert may turn. -/
def FootN (p : Nat) (Z : List Z10) (a k : Nat) : Prop := Foot p Z k ∨ k = a

/-- While a new pair is put in: the lanes below t are done. -/
structure Mid (B p : Nat) (w0 w : World) (s : S10) (Z : List Z10) (pl a b : Nat) (key value : ByteArray) (t : Nat) (by_ : Int) : Prop where
  at_ : SpAt B p w Z (lnkM Z pl a t) (cntM s.L t) by_ s.frozen
  new : NdAt w a key value (lnkN Z pl t)
  arr : Blk w b 31 (befV p Z pl)
  tu : Tu (FootN p Z a) w0 w
theorem Mid.one {B p : Nat} {w0 w : World} {s : S10} {Z : List Z10} {pl a b t : Nat} {key value : ByteArray} {by_ : Int} (h : Mid B p w0 w s Z pl a b key value t by_) (ha : ¬ Foot p Z a) (ht : t < 12) (W : World) (hW : W = (w.setCell ⟨a, 2 + t, none⟩ (.pointer (lnk Z (bef Z t pl) t))).drew) :
    NdAt W a key value (lnkN Z pl (t + 1)) ∧ SpAt B p W Z (lnkM Z pl a t) (cntM s.L t) by_ s.frozen ∧ Blk W b 31 (befV p Z pl) ∧ Tu (FootN p Z a) w0 W := by
  subst hW
  have gd : (w.setCell ⟨a, 2 + t, none⟩ (.pointer (lnk Z (bef Z t pl) t))).grownBy (w.setCell ⟨a, 2 + t, none⟩ (.pointer (lnk Z (bef Z t pl) t))).drew none := only_drew (grefl _ none)
  have gt := Tu.of_grown (S := fun _ => False) gd
  obtain ⟨cs, hb⟩ := h.new.ty
  refine ⟨((h.new.set_ ht _).eq_ (fun t' _ => ?_)).tu gt (fun h => h), (h.at_.far (q := ⟨a, 2 + t, none⟩) ha _).up gd, (h.arr.far (p := ⟨a, 2 + t, none⟩) (fun e => ?_) _).drew, ((h.tu.setCell (p := ⟨a, 2 + t, none⟩) (Or.inr (Or.inr rfl)) _).trans (Tu.of_grown gd))⟩
  · unfold lnkN
    by_cases e : t' = t
    · rw [if_pos e, if_pos (by omega), e]
    · rw [if_neg e]
      by_cases e2 : t' < t
      · rw [if_pos e2, if_pos (by omega)]
      · rw [if_neg e2, if_neg (by omega)]
  · exact (h.arr.ne_ hb (by decide)) e
theorem Mid.two {B p : Nat} {w0 w : World} {s : S10} {Z : List Z10} {pl a b t : Nat} {key value : ByteArray} {by_ : Int} (h0 : NdAt w a key value (lnkN Z pl (t + 1))) (h1 : SpAt B p w Z (lnkM Z pl a t) (cntM s.L t) by_ s.frozen) (h2 : Blk w b 31 (befV p Z pl)) (h3 : Tu (FootN p Z a) w0 w)
    (hpl : pl ≤ Z.length) (ha : ¬ Foot p Z a) (hb : ¬ Foot p Z b) (ht : t < 12) :
    NdAt (w.setCell ⟨padr p Z (bef Z t pl), 2 + t, none⟩ (.pointer (some ⟨a, 0, none⟩))) a key value (lnkN Z pl (t + 1)) ∧ SpAt B p (w.setCell ⟨padr p Z (bef Z t pl), 2 + t, none⟩ (.pointer (some ⟨a, 0, none⟩))) Z (lnkM Z pl a (t + 1)) (cntM s.L t) by_ s.frozen ∧
      Blk (w.setCell ⟨padr p Z (bef Z t pl), 2 + t, none⟩ (.pointer (some ⟨a, 0, none⟩))) b 31 (befV p Z pl) ∧ Tu (FootN p Z a) w0 (w.setCell ⟨padr p Z (bef Z t pl), 2 + t, none⟩ (.pointer (some ⟨a, 0, none⟩))) := by
  have hk : bef Z t pl ≤ Z.length := Nat.le_trans (bef_le Z t pl) hpl
  have hf : Foot p Z (padr p Z (bef Z t pl)) := Foot.at_ hk
  refine ⟨h0.far (q := ⟨padr p Z (bef Z t pl), 2 + t, none⟩) (fun e => ha (e ▸ hf)) _, (h1.setL hk ht _).eq_ (fun k t' _ => ?_) (fun _ _ => rfl), h2.far (p := ⟨padr p Z (bef Z t pl), 2 + t, none⟩) (fun e => hb (e ▸ hf)) _, h3.setCell (p := ⟨padr p Z (bef Z t pl), 2 + t, none⟩) (Or.inr (Or.inl hf)) _⟩
  unfold lnkM
  by_cases e : t' = t
  · subst e
    by_cases e2 : k = bef Z t' pl
    · rw [if_pos ⟨by omega, e2⟩, if_pos ⟨e2, rfl⟩]
    · rw [if_neg (fun h => e2 h.2), if_neg (fun h => e2 h.1), if_neg (fun h => e2 h.2)]
  · rw [if_neg (fun h : k = bef Z t pl ∧ t' = t => e h.2)]
    by_cases e2 : t' < t ∧ k = bef Z t' pl
    · rw [if_pos ⟨by omega, e2.2⟩, if_pos e2]
    · rw [if_neg (fun h => e2 ⟨by omega, h.2⟩), if_neg e2]
theorem Mid.three {B p : Nat} {w0 w : World} {s : S10} {Z : List Z10} {pl a b t : Nat} {key value : ByteArray} {by_ : Int} (h0 : NdAt w a key value (lnkN Z pl (t + 1))) (h1 : SpAt B p w Z (lnkM Z pl a (t + 1)) (cntM s.L t) by_ s.frozen) (h2 : Blk w b 31 (befV p Z pl)) (h3 : Tu (FootN p Z a) w0 w)
    (ha : ¬ Foot p Z a) (hb : ¬ Foot p Z b) (ht : t < 12) (W : World) (hW : W = (w.setCell ⟨p, 14 + t, none⟩ (.int .i64 ((cntL s.L t : Int) + 1))).drew) : Mid B p w0 W s Z pl a b key value (t + 1) by_ := by
  subst hW
  have gd : (w.setCell ⟨p, 14 + t, none⟩ (.int .i64 ((cntL s.L t : Int) + 1))).grownBy (w.setCell ⟨p, 14 + t, none⟩ (.int .i64 ((cntL s.L t : Int) + 1))).drew none := only_drew (grefl _ none)
  have gt := Tu.of_grown (S := fun _ => False) gd
  refine ⟨((h1.setC ht _).eq_ (fun _ _ _ => rfl) (fun t' _ => ?_)).up gd, (h0.far (q := ⟨p, 14 + t, none⟩) (fun e => ha (Or.inl e)) _).tu gt (fun h => h), (h2.far (p := ⟨p, 14 + t, none⟩) (fun e => hb (Or.inl e)) _).drew, (h3.setCell (p := ⟨p, 14 + t, none⟩) (Or.inr (Or.inl (Or.inl rfl))) _).trans (Tu.of_grown gd)⟩
  unfold cntM
  by_cases e : t' = t
  · subst e; rw [if_pos rfl, if_pos (by omega)]
  · rw [if_neg e]
    by_cases e2 : t' < t
    · rw [if_pos (by omega), if_pos e2]
    · rw [if_neg (by omega), if_neg e2]
theorem Mid.four {B p : Nat} {w0 w : World} {s : S10} {Z : List Z10} {pl a b t : Nat} {key value : ByteArray} {by_ by2 : Int} (h : Mid B p w0 w s Z pl a b key value t by_) (ha : ¬ Foot p Z a) (W : World) (hW : W = (w.setCell ⟨p, 26, none⟩ (.int .i64 by2)).drew) :
    SpAt B p W Z (lnkM Z pl a t) (cntM s.L t) by2 s.frozen ∧ NdAt W a key value (lnkN Z pl t) ∧ Tu (FootN p Z a) w0 W := by
  subst hW
  have gd : (w.setCell ⟨p, 26, none⟩ (.int .i64 by2)).grownBy (w.setCell ⟨p, 26, none⟩ (.int .i64 by2)).drew none := only_drew (grefl _ none)
  have gt := Tu.of_grown (S := fun _ => False) gd
  exact ⟨(h.at_.setB _).up gd, (h.new.far (q := ⟨p, 26, none⟩) (fun e => ha (Or.inl e)) _).tu gt (fun h => h), (h.tu.setCell (p := ⟨p, 26, none⟩) (Or.inr (Or.inl (Or.inl rfl))) _).trans (Tu.of_grown gd)⟩
end Go.Proofs.YtmagkkkecihgmaaGreat
