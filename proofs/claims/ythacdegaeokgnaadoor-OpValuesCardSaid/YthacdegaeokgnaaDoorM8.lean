/-
  Several texts in one: As XQuiet, what is left of the region behind a structure: else each step would unfold it whole, where many operations that a guard passes over follow each other. No program is named.
  The landed package op: the act of the latest of the versions that fit.
  The landed package op: what a key has behind all versions of a list.
  The greatest and the least of numbers, by their ranks (no program is named).
  Plain lemmas: two numbers have the same text just if they are the same. No program is named.
  Plain lemmas: decimals tell their number. No program is named.
  Walks over package raw: quoted.
  Quotes, without the program: what is put in quotes is read as it was, whatever stands behind it; no byte of it is outside of 32 to 126.
  Plain lemmas on the texts of values (chapter 6): values of one key that acts make have the same text just if they are the same.
  Rows of versions that a call has made itself: what was appended, one behind the other. No program is named.
  An append that leaves what was there readable; rows of numbers that are apart. No program is named.
  Rows of versions that a call makes: 'append(nil, l...)', 'append(r, l...)', 'append(r, v)', as steps of a walk.
  Acts and values that came in: what a walk asks of them, out of how they read. No program is named.
  The last step of a law's row: the call leaves all that was there as it was.
  The document's own answer to chapter 6: two acts as one.
-/
import Derived.Test.YthacdegaeokgnaaDoorM3
import Derived.Test.YthacdegaeokgnaaDoorM7
import Derived.Deep.RegionWith
import Derived.Test.YthacdegaeokgnaaDoorM2
import Derived.RowKit
import Derived.Test.YthacdegaeokgnaaDoorM5
import Derived.Test.YthacdegaeokgnaaDoorM1
import Derived.Test.YthacdegaeokgnaaDoorM6
import Derived.Laws.AppendOwn
import Derived.Test.YthacdegaeokgnaaDoorRows
import Derived.SizedLaws
import Derived.Below
import Derived.ChangeSame
import Derived.ProofKit
import Derived.Test.YthacdegaeokgnaaDoorM4
namespace Go.Proofs.YthacdegaeokgnaaDoor
section
variable {P : Program} {ops : Array Oper} {C : World → Prop} {Q : Act → Prop} {a : Act} {o : Oper} {rest : List Oper}
/-- The rest of a region. -/
structure WQ (P : Program) (ops : Array Oper) (C : World → Prop) (Q : Act → Prop) (l : List Oper) (a : Act) : Prop where
  out : wpQuiet P ops C Q l a
theorem wq_nil {Q : Act → Prop} {a : Act} (h : Q a) : WQ P ops C Q [] a := ⟨wpQuiet_nil h⟩
theorem wq_skip (hw : Region.wanted o (yielded ops a.tmps) = false) (h : WQ P ops C Q rest (a.put o.dst undef)) : WQ P ops C Q (o :: rest) a := ⟨wpQuiet_skip hw h.out⟩
theorem wq_take (hw : Region.wanted o (yielded ops a.tmps) = true) (v : Value) (hy : ∀ w, C w → o.quietAt P a C w v) (h : WQ P ops C Q rest (a.put o.dst v)) : WQ P ops C Q (o :: rest) a := ⟨wpQuiet_take hw v hy h.out⟩
theorem wp_region_wq {id : Nat} {Q : Exit → Act → World → Prop} {a : Act} {w : World} {l : List Oper} (C : World → Prop) (hm : P.follows .mixedOrders = true) (hB : Region.lexB .any l.toArray = true) (hC : C w.drew)
    (h : WQ P l.toArray C (fun a' => ∀ w', C w' → Q .normal a' w') l a) : (Code.region id l.toArray true).wp P Q a w :=
  wp_region_class C hm hB hC h.out
end
end Go.Proofs.YthacdegaeokgnaaDoor

namespace Go.Proofs.YthacdegaeokgnaaDoor
open Go.RowKit

/-- What stands while versions are gone through: the result's cells, and all that was there. -/
structure Lat6 (w : World) (W : World) : Prop where
  r : Blk W w.heap.size 24 (actC 0 0 0 ⟨#[]⟩)
  below : Below w.heap.size w W
theorem Lat6.on {w W W' : World} (h : Lat6 w W) (hb : Below W.heap.size W W') : Lat6 w W' := ⟨h.r.below hb h.r.lt, h.below.trans (hb.mono h.below.size)⟩
theorem Lat6.drew {w W : World} (h : Lat6 w W) : Lat6 w W.drew := ⟨h.r, h.below.drew⟩
theorem Lat6.start (w : World) : Lat6 w (w.alloc (.cells #[.int .i64 0, .float .f64 0, .int .i64 0, .string ⟨#[]⟩] 24)) := ⟨Blk.new w _ _, (Below.refl _ w).alloc (Nat.le_refl _) _⟩
theorem olatest_end {w : World} {p : Nat} {t : Array Value} {R : Ending → World → Prop} {kd : Int} {nu : Nat} {it : Int} {tx : ByteArray} {b : Bool} (B : Blk w p 24 (actC kd nu it tx)) (h4 : t[4]?.getD undef = .pointer (some ⟨p, 0, none⟩)) (h5 : t[5]?.getD undef = .bool b) (h : R (.returned (.tuple #[actV kd nu it tx, .bool b])) w) :
    bodyPost Tryd.prog Tryd.f59 R .ret { tmps := t, defers := [] } w := by
  refine bodyPost_ret (v := .tuple #[actV kd nu it tx, .bool b]) ?_ rfl h
  obtain ⟨c0, c1, c2, c3⟩ := act_cells B
  rw [results_cell_tmp rfl]
  simp [go_sem, h4, h5, c0, c1, c2, c3, actV]
/-- What the latest tells: no act, or the best one's. -/
def LatIs (e : Ending) (key : List UInt8) (vs : List VerR) : Prop :=
  (e = .returned (.tuple #[actV 0 0 0 ⟨#[]⟩, .bool false]) ∧ bestN key vs vs.length = none) ∨
  (∃ kd nu it tx s, e = .returned (.tuple #[actV kd nu it tx, .bool true]) ∧ ActIn kd nu it tx ∧ bestN key vs vs.length = some s ∧ s.a = a6 kd nu it tx ∧ fitsA key (a6 kd nu it tx) = true)

set_option maxRecDepth 100000 in
set_option maxHeartbeats 4000000 in
theorem olatest_any (key : ByteArray) (hk : key.size ≤ 9223372036854775807) (A : Option Addr) (n c : Nat) (vs : List VerR) (w : World) (h : VersIn w A n vs) :
    Calls Tryd.prog 59 #[.string key, .slice A n c] w fun e w' => LatIs e key.data.toList vs ∧ Below w.heap.size w w' := by
  have R0 := fun kd nu it tx I W => Lib.hid (ofits_any key hk kd nu it tx I W)
  have LT := fun (ra rb : VerR) (W : World) (Va : ra.in_ W) (Vb : rb.in_ W) => Lib.hid (llater_any ra.key ra.A ra.n ra.c ra.o ra.x ra.kd ra.nu ra.it ra.tx ra.xs rb.key rb.A rb.n rb.c rb.o rb.x rb.kd rb.nu rb.it rb.tx rb.xs W Va Vb)
  simp only [actV] at R0
  simp only [verV] at LT
  have hst := run_sto_f64
  have S0 := Lat6.start w
  have hlen := Lib.hid h.len
  have hmx := h.max
  have h := Lib.hid h
  go_enter Tryd.func59, Tryd.ntmps59
  go_wp2_with fail
  generalize w.alloc (.cells #[.int .i64 0, .float .f64 0, .int .i64 0, .string ⟨#[]⟩] 24) = w0 at S0 ⊢
  go_loopw [6, 10] (fun b i wr => ∃ (k : Nat) (j : Int), k ≤ n ∧ b = .int .i64 j ∧ i = .int .i64 (k : Int) ∧ Lat6 w wr ∧ Hid (BestAt key.data.toList vs k j))
    (fun _ i _ => (n - intOf i).toNat)
  case atStart => exact ⟨0, -1, by omega, rfl, rfl, S0, Or.inl ⟨rfl, by unfold bestN; rw [List.take_zero]; rfl⟩⟩
  case round =>
    obtain ⟨k, j, hkn, rfl, rfl, S, HB⟩ := hrel
    by_cases hkl : k < n
    · have VI := h.out.below S.below
      obtain ⟨b, off, rfl, hbl, hcells⟩ := VI.some (by omega)
      obtain ⟨r, hr⟩ : ∃ r, vs.getD k VerR.zero = r := ⟨_, rfl⟩
      have HR := Lib.hid hr
      have RI : Hid (r.in_ wr) := by rw [← hr]; exact VI.each k hkl
      have I := Lib.hid (VerR.act RI.out)
      have hkl' : (k : Int) < (n : Int) := by omega
      have hkl2 : k < vs.length := by rw [hlen.out]; exact hkl
      have CK : ∀ W, Below wr.heap.size wr W → _ := fun W hW => VersIn.at_ ((VI.below hW).some (by omega) |> fun ⟨b', off', hA, _, hc⟩ => by cases hA; exact hc) hkl HR.out
      obtain ⟨q, hq⟩ : ∃ q, fitsA key.data.toList (a6 r.kd r.nu r.it r.tx) = q := ⟨_, rfl⟩
      have R : ∀ W, (Lat6 w W ∧ Below wr.heap.size wr W) → Hid _ := fun W hW => ((R0 _ _ _ _ I.out W).out.mono fun e w' ⟨he, hb⟩ => (⟨he, hW.1.on hb, hW.2.trans (hb.mono hW.2.size)⟩ : _ ∧ Lat6 w w' ∧ Below wr.heap.size wr w'))
      rw [hq] at R
      have HQ := Lib.hid hq
      clear hq hr R0
      cases q
      · have E : Hid (BestAt key.data.toList vs (k + 1) j) := HB.out.skip hkl2 (by rw [HR.out]; exact HQ.out)
        clear LT hcells VI
        go_wp2_with fail
        refine wp_region_wq (fun W => Lat6 w W ∧ Below wr.heap.size wr W) (by kernel_rfl) (by kernel_rfl) ⟨S.drew, (Below.refl _ wr).drew⟩ ?_
        repeat' (first
          | (refine wq_skip (by rfl) ?_; try simp only [Act.put, List.setIfInBounds_toArray, List.set_cons_zero, List.set_cons_succ])
          | (refine wq_take (by rfl) ?_ (fun W hW => ?_) ?_
             rotate_left
             focus
               obtain ⟨d0, d1, d2, d3, d4, d5, d6, d7⟩ := CK W hW.2
               go_simp
               first
                 | done
                 | with_reducible rfl
                 | (go_at_call 17; exact (R W hW).out)
             try simp only [Act.put, List.setIfInBounds_toArray, List.set_cons_zero, List.set_cons_succ]))
        refine wq_nil (fun w5 hW => ?_)
        have S5 := hW.1
        clear hW R CK
        simp only [Exit.then]
        go_wp2_with fail
        go_roundw
        case rel => exact ⟨k + 1, j, by omega, rfl, by go_num, S5, E⟩
        case measure => simp [intOf]; omega
      · rcases HB.out with ⟨hj, hbn⟩ | ⟨m, hm, hj, hbn, hfm⟩
        · subst hj
          have E : Hid (BestAt key.data.toList vs (k + 1) (k : Int)) := BestAt.first hbn hkl2 (by rw [HR.out]; exact HQ.out)
          clear hbn HB hcells VI LT
          go_wp2_with fail
          refine wp_region_wq (fun W => Lat6 w W ∧ Below wr.heap.size wr W) (by kernel_rfl) (by kernel_rfl) ⟨S.drew, (Below.refl _ wr).drew⟩ ?_
          repeat' (first
            | (refine wq_skip (by rfl) ?_; try simp only [Act.put, List.setIfInBounds_toArray, List.set_cons_zero, List.set_cons_succ])
            | (refine wq_take (by rfl) ?_ (fun W hW => ?_) ?_
               rotate_left
               focus
                 obtain ⟨d0, d1, d2, d3, d4, d5, d6, d7⟩ := CK W hW.2
                 go_simp
                 first
                   | done
                   | with_reducible rfl
                   | (go_at_call 17; exact (R W hW).out)
               try simp only [Act.put, List.setIfInBounds_toArray, List.set_cons_zero, List.set_cons_succ]))
          refine wq_nil (fun w5 hW => ?_)
          have S5 := hW.1
          clear hW R CK
          simp only [Exit.then]
          go_wp2_with fail
          go_roundw
          case rel => exact ⟨k + 1, (k : Int), by omega, rfl, by go_num, S5, E⟩
          case measure => simp [intOf]; omega
        · subst hj
          obtain ⟨rm, hrm⟩ : ∃ rm, vs.getD m VerR.zero = rm := ⟨_, rfl⟩
          have hmn : m < n := by omega
          have RM : Hid (rm.in_ wr) := by rw [← hrm]; exact VI.each m hmn
          have HM := Lib.hid hrm
          have hm' : (m : Int) < (n : Int) := by omega
          have hm0 : decide ((m : Int) < 0) = false := decide_eq_false (by omega)
          have hm1 : (0 : Int) ≤ (m : Int) := by omega
          obtain ⟨q, hq⟩ : ∃ q, laterS (s6 r) (s6 rm) = q := ⟨_, rfl⟩
          have LT : ∀ W, (Lat6 w W ∧ Below wr.heap.size wr W) → Hid _ := fun W hW => ((LT r rm W (RI.out.below hW.2) (RM.out.below hW.2)).out.mono fun e w' ⟨he, hb⟩ => (⟨he, hW.1.on hb, hW.2.trans (hb.mono hW.2.size)⟩ : _ ∧ Lat6 w w' ∧ Below wr.heap.size wr w'))
          have hq' : laterS (S6.mk (a6 r.kd r.nu r.it r.tx) (timeZ r.xs r.o) r.o r.x r.xs) (S6.mk (a6 rm.kd rm.nu rm.it rm.tx) (timeZ rm.xs rm.o) rm.o rm.x rm.xs) = q := hq
          rw [hq'] at LT
          have CM : ∀ W, Below wr.heap.size wr W → _ := fun W hW => VersIn.at_ ((VI.below hW).some (by omega) |> fun ⟨b', off', hA, _, hc⟩ => by cases hA; exact hc) hmn HM.out
          have E : Hid (BestAt key.data.toList vs (k + 1) (if q then (k : Int) else (m : Int))) := by
            cases q
            · exact BestAt.stay hm hbn hkl2 (by rw [HR.out]; exact HQ.out) hfm (by rw [HR.out, hrm]; exact hq)
            · exact BestAt.turn hbn hkl2 (by rw [HR.out]; exact HQ.out) (by rw [HR.out, hrm]; exact hq)
          clear hbn HB hcells VI hrm hq hq' hfm
          go_wp2_with fail
          refine wp_region_wq (fun W => Lat6 w W ∧ Below wr.heap.size wr W) (by kernel_rfl) (by kernel_rfl) ⟨S.drew, (Below.refl _ wr).drew⟩ ?_
          repeat' (first
            | (refine wq_skip (by rfl) ?_; try simp only [Act.put, List.setIfInBounds_toArray, List.set_cons_zero, List.set_cons_succ])
            | (refine wq_take (by rfl) ?_ (fun W hW => ?_) ?_
               rotate_left
               focus
                 obtain ⟨d0, d1, d2, d3, d4, d5, d6, d7⟩ := CK W hW.2
                 obtain ⟨p0, p1, p2, p3, p4, p5, p6, p7⟩ := CM W hW.2
                 go_simp
                 first
                   | done
                   | with_reducible rfl
                   | (go_at_call 17; exact (R W hW).out)
                   | (go_at_call 85; exact (LT W hW).out)
               try simp only [Act.put, List.setIfInBounds_toArray, List.set_cons_zero, List.set_cons_succ]))
          refine wq_nil (fun w5 hW => ?_)
          have S5 := hW.1
          clear hW R LT CK CM
          simp only [Exit.then]
          cases q
          · go_wp2_with fail
            go_roundw
            case rel => exact ⟨k + 1, (m : Int), by omega, rfl, by go_num, S5, E⟩
            case measure => simp [intOf]; omega
          · go_wp2_with fail
            go_roundw
            case rel => exact ⟨k + 1, (k : Int), by omega, rfl, by go_num, S5, E⟩
            case measure => simp [intOf]; omega
    · obtain rfl : k = n := by omega
      obtain ⟨r0, r1, r2, r3⟩ := act_cells S.r
      have z0 := S.r.frozen 0
      have z1 := S.r.frozen 1
      have z2 := S.r.frozen 2
      have z3 := S.r.frozen 3
      have S := Lib.hid S
      clear R0 LT
      rcases HB.out with ⟨rfl, hbn⟩ | ⟨m, hm, rfl, hbn, hfm⟩
      · have HN : Hid (bestN key.data.toList vs vs.length = none) := by rw [hlen.out]; exact hbn
        clear HB hbn
        go_wp2_with fail
        try simp only [Exit.inBlock, Exit.then]
        exact olatest_end (blk_set4 S.out.r (.int .i64 0) (.float .f64 0) (.int .i64 0) (.string ⟨#[]⟩)) rfl rfl ⟨Or.inl ⟨rfl, HN.out⟩, below_set4 S.out.below (Nat.le_refl _) _ _ _ _⟩
      · have VI := h.out.below S.out.below
        obtain ⟨b, off, rfl, hbl, hcells⟩ := VI.some (by omega)
        obtain ⟨rm, hrm⟩ : ∃ rm, vs.getD m VerR.zero = rm := ⟨_, rfl⟩
        have RM : rm.in_ wr := by rw [← hrm]; exact VI.each m hm
        have I := Lib.hid (VerR.act RM)
        obtain ⟨f0, f1, f2, f3, f4, f5, f6, f7⟩ := VersIn.at_ hcells hm hrm
        have hm' : (m : Int) < (k : Int) := by omega
        have hm0 : ¬ (m : Int) < 0 := by omega
        have hm1 : (0 : Int) ≤ (m : Int) := by omega
        have T : Hid (LatIs (.returned (.tuple #[actV rm.kd rm.nu rm.it rm.tx, .bool true])) key.data.toList vs) := by
          rw [hrm] at hfm hbn
          exact Or.inr ⟨_, _, _, _, s6 rm, rfl, I.out, by rw [hlen.out]; exact hbn, rfl, hfm⟩
        clear HB hbn hfm hrm hcells VI RM
        go_wp2_with fail
        try simp only [Exit.inBlock, Exit.then]
        exact olatest_end (blk_set4 S.out.r (.int .i64 rm.kd) (.float .f64 rm.nu) (.int .i64 rm.it) (.string rm.tx)) rfl rfl ⟨T.out, below_set4 S.out.below (Nat.le_refl _) _ _ _ _⟩
end Go.Proofs.YthacdegaeokgnaaDoor

namespace Go.Proofs.YthacdegaeokgnaaDoor
open Go.RowKit

/-- What stands while versions are gone through: the value so far, the result's cells, and all that was there. -/
structure Sum6 (w : World) (th : Bool) (nu : Nat) (it : Int) (tx : ByteArray) (W : World) : Prop where
  r : Blk W w.heap.size 26 (valC false 0 0 ⟨#[]⟩)
  v : Blk W (w.heap.size + 1) 26 (valC th nu it tx)
  below : Below w.heap.size w W
section
variable {w W W' : World} {th : Bool} {nu : Nat} {it : Int} {tx : ByteArray}
theorem Sum6.on (h : Sum6 w th nu it tx W) (hb : Below W.heap.size W W') : Sum6 w th nu it tx W' := ⟨h.r.below hb h.r.lt, h.v.below hb h.v.lt, h.below.trans (hb.mono h.below.size)⟩
theorem Sum6.drew (h : Sum6 w th nu it tx W) : Sum6 w th nu it tx W.drew := ⟨h.r, h.v, h.below.drew⟩
theorem Sum6.start (w : World) : Sum6 w false 0 0 ⟨#[]⟩ ((w.alloc (.cells #[.bool false, .float .f64 0, .int .i64 0, .string ⟨#[]⟩] 26)).alloc (.cells #[.bool false, .float .f64 0, .int .i64 0, .string ⟨#[]⟩] 26)) :=
  ⟨(Blk.new w _ _).alloc _, Blk.new' (by simp) _ _, ((Below.refl _ w).alloc (Nat.le_refl _) _).alloc (by simp) _⟩
theorem Sum6.set (h : Sum6 w th nu it tx W) (th' : Bool) (nu' : Nat) (it' : Int) (tx' : ByteArray) :
    Sum6 w th' nu' it' tx' ((((W.setCell ⟨w.heap.size + 1, 0, none⟩ (.bool th')).setCell ⟨w.heap.size + 1, 1, none⟩ (.float .f64 nu')).setCell ⟨w.heap.size + 1, 2, none⟩ (.int .i64 it')).setCell ⟨w.heap.size + 1, 3, none⟩ (.string tx')) :=
  ⟨blk_far4 h.r (by omega) _ _ _ _, blk_set4 h.v _ _ _ _, below_set4 h.below (Nat.le_succ _) _ _ _ _⟩
end
theorem ovalue_end {w : World} {p : Nat} {t : Array Value} {R : Ending → World → Prop} {th : Bool} {nu : Nat} {it : Int} {tx : ByteArray} (B : Blk w p 26 (valC th nu it tx)) (h4 : t[4]?.getD undef = .pointer (some ⟨p, 0, none⟩)) (h : R (.returned (valV th nu it tx)) w) :
    bodyPost Tryd.prog Tryd.f29 R .ret { tmps := t, defers := [] } w := by
  obtain ⟨c0, c1, c2, c3⟩ := val_cells B
  refine bodyPost_ret (v := valV th nu it tx) ?_ rfl h
  simp [results, Tryd.results29, go_sem, c0, c1, c2, c3, h4, valV]
theorem kindL_is {key : List UInt8} {c : UInt8} (h : kindL key = c) (h0 : c ≠ 0) : isKeyL key = true ∧ key.headD 0 = c := by
  unfold kindL at h
  cases hk : isKeyL key
  · rw [hk] at h
    exact absurd h.symm h0
  · rw [hk, if_pos rfl] at h
    exact ⟨rfl, h⟩
theorem kindL_cases (key : List UInt8) : (kindL key = 0 ∧ isKeyL key = false) ∨ kindL key = 114 ∨ kindL key = 116 ∨ kindL key = 99 ∨ kindL key = 120 ∨ kindL key = 110 := by
  unfold kindL
  cases hk : isKeyL key
  · exact Or.inl ⟨rfl, rfl⟩
  · rw [if_pos rfl]
    exact Or.inr (isKeyL_head hk)

set_option maxRecDepth 100000 in
set_option maxHeartbeats 4000000 in
theorem ovalue_no (key : ByteArray) (hk : key.size ≤ 9223372036854775807) (A : Option Addr) (n c : Nat) (vs : List VerR) (w : World) (hc : kindL key.data.toList = 0) (hkey : isKeyL key.data.toList = false) :
    Calls Tryd.prog 29 #[.string key, .slice A n c] w fun e w' => RetV e (valueA key.data.toList (vs.map s6)) ∧ Below w.heap.size w w' := by
  rw [valueA_none fun s _ => by unfold fitsA; rw [hkey]; rfl]
  have KD := fun W => Lib.hid (lkind_any key hk W)
  rw [hc] at KD
  have hst := run_sto_f64
  have S0 := Lib.hid (Sum6.start w)
  go_enter Tryd.func29, Tryd.ntmps29
  go_wp2_with fail
  generalize (w.alloc (.cells #[.bool false, .float .f64 0, .int .i64 0, .string ⟨#[]⟩] 26)).alloc (.cells #[.bool false, .float .f64 0, .int .i64 0, .string ⟨#[]⟩] 26) = w0 at S0 ⊢
  refine (KD _).out.mono ?_
  rintro e w1 ⟨rfl, rfl⟩
  obtain ⟨v0, v1, v2, v3⟩ := val_cells S0.out.v
  obtain ⟨r0, r1, r2, r3⟩ := val_cells S0.out.r
  have z0 := S0.out.r.frozen 0
  have z1 := S0.out.r.frozen 1
  have z2 := S0.out.r.frozen 2
  have z3 := S0.out.r.frozen 3
  go_wp2_with fail
  try simp only [Exit.inBlock, Exit.then]
  exact ovalue_end (blk_set4 S0.out.r (.bool false) (.float .f64 0) (.int .i64 0) (.string ⟨#[]⟩)) rfl ⟨⟨false, 0, 0, ⟨#[]⟩, rfl, ValIn.zero, by unfold v6 V6.zero; simp [rank_zero]⟩, below_set4 S0.out.below (Nat.le_refl _) _ _ _ _⟩

set_option maxRecDepth 100000 in
set_option maxHeartbeats 4000000 in
theorem ovalue_best (key : ByteArray) (hk : key.size ≤ 9223372036854775807) (A : Option Addr) (n c : Nat) (vs : List VerR) (w : World) (h : VersIn w A n vs) (k0 : UInt8) (hc : kindL key.data.toList = k0) (hr : k0 = 114 ∨ k0 = 116) :
    Calls Tryd.prog 29 #[.string key, .slice A n c] w fun e w' => RetV e (valueA key.data.toList (vs.map s6)) ∧ Below w.heap.size w w' := by
  have hd := (kindL_is hc (by rcases hr with rfl | rfl <;> decide)).2
  have hX := valueA_best (key := key.data.toList) (by rw [hd]; exact hr) vs
  obtain ⟨X, hX0⟩ : ∃ X, valueA key.data.toList (vs.map s6) = X := ⟨_, rfl⟩
  rw [hX0] at hX ⊢
  have HX := Lib.hid hX
  clear hX hX0 hd
  have KD := fun W => Lib.hid (lkind_any key hk W)
  rw [hc] at KD
  have LA := fun W hW => Lib.hid (olatest_any key hk A n c vs W hW)
  have AF := fun th vn vi vt IV kd nu it tx I W => Lib.hid (oafter_any key hk th vn vi vt IV kd nu it tx I W)
  simp only [actV, valV] at AF
  have hst := run_sto_f64
  have S0 := Lib.hid (Sum6.start w)
  have hn : Hid (((k0.toNat : Int) == 114) = true ∨ (((k0.toNat : Int) == 114) = false ∧ ((k0.toNat : Int) == 116) = true)) := by
    rcases hr with rfl | rfl
    · exact Or.inl rfl
    · exact Or.inr ⟨rfl, rfl⟩
  have h := Lib.hid h
  clear hr hc
  rcases hn.out with n1 | ⟨n1, n2⟩
  all_goals
    clear hn
    go_enter Tryd.func29, Tryd.ntmps29
    go_wp2_with fail
    generalize (w.alloc (.cells #[.bool false, .float .f64 0, .int .i64 0, .string ⟨#[]⟩] 26)).alloc (.cells #[.bool false, .float .f64 0, .int .i64 0, .string ⟨#[]⟩] 26) = w0 at S0 ⊢
    refine (KD _).out.mono ?_
    rintro e w1 ⟨rfl, rfl⟩
    go_wp2_with fail
    refine (LA _ (h.out.below S0.out.below)).out.mono ?_
    rintro e w2 ⟨hl, g2⟩
    have S2 := Lib.hid (S0.out.on g2)
    clear S0 g2 LA
    rcases hl with ⟨rfl, hbn⟩ | ⟨kd, nu, it, tx, s, rfl, hI, hbn, hsa, hf⟩
    · have HZ : Hid (X = V6.zero) := by
        have e := HX.out
        rw [hbn] at e
        exact e
      clear HX hbn
      have S3 := Lib.hid (S2.out.on ((Below.refl _ w2).alloc (Nat.le_refl _) (.cells #[.int .i64 0, .float .f64 0, .int .i64 0, .string ⟨#[]⟩] 24)))
      obtain ⟨v0, v1, v2, v3⟩ := val_cells S3.out.v
      obtain ⟨r0, r1, r2, r3⟩ := val_cells S3.out.r
      have z0 := S3.out.r.frozen 0
      have z1 := S3.out.r.frozen 1
      have z2 := S3.out.r.frozen 2
      have z3 := S3.out.r.frozen 3
      clear S2 AF
      simp only [actV]
      go_wp2_with fail
      try simp only [Exit.inBlock, Exit.then]
      exact ovalue_end (blk_set4 S3.out.r (.bool false) (.float .f64 0) (.int .i64 0) (.string ⟨#[]⟩)) rfl ⟨⟨false, 0, 0, ⟨#[]⟩, rfl, ValIn.zero, by rw [HZ.out]; unfold v6 V6.zero; simp [rank_zero]⟩, below_set4 S3.out.below (Nat.le_refl _) _ _ _ _⟩
    · have T : Hid (X = afterA key.data.toList (v6 false 0 0 ⟨#[]⟩) (a6 kd nu it tx)) := by
        have e := HX.out
        rw [hbn] at e
        unfold Hid afterA
        rw [hf, if_pos rfl, show v6 false 0 0 ⟨#[]⟩ = V6.zero from by unfold v6 V6.zero; simp [rank_zero], ← hsa]
        exact e
      have AF := fun W => AF false 0 0 ⟨#[]⟩ ValIn.zero kd nu it tx hI W
      clear HX hbn hsa hf
      have B3 := Lib.hid (Blk.new w2 24 #[.int .i64 kd, .float .f64 nu, .int .i64 it, .string tx])
      have S3 := Lib.hid (S2.out.on ((Below.refl _ w2).alloc (Nat.le_refl _) (.cells #[.int .i64 kd, .float .f64 nu, .int .i64 it, .string tx] 24)))
      obtain ⟨v0, v1, v2, v3⟩ := val_cells S3.out.v
      clear S2
      simp only [actV]
      go_wp2_with fail
      generalize w2.alloc (.cells #[.int .i64 kd, .float .f64 nu, .int .i64 it, .string tx] 24) = w3 at S3 B3 v0 v1 v2 v3 ⊢
      refine (AF _).out.mono ?_
      rintro e w4 ⟨⟨th3, nu3, it3, tx3, rfl, hv3, hx3⟩, g4⟩
      have S4 := Lib.hid (S3.out.on g4)
      clear S3 B3 g4 v0 v1 v2 v3 AF
      obtain ⟨v0, v1, v2, v3⟩ := val_cells S4.out.v
      have y0 := S4.out.v.frozen 0
      have y1 := S4.out.v.frozen 1
      have y2 := S4.out.v.frozen 2
      have y3 := S4.out.v.frozen 3
      have S5 := Lib.hid (S4.out.set th3 nu3 it3 tx3)
      obtain ⟨r0, r1, r2, r3⟩ := val_cells S5.out.r
      have z0 := S5.out.r.frozen 0
      have z1 := S5.out.r.frozen 1
      have z2 := S5.out.r.frozen 2
      have z3 := S5.out.r.frozen 3
      obtain ⟨x0, x1, x2, x3⟩ := val_cells S5.out.v
      simp only [valV]
      go_wp2_with fail
      try simp only [Exit.inBlock, Exit.then]
      exact ovalue_end (blk_set4 S5.out.r (.bool th3) (.float .f64 nu3) (.int .i64 it3) (.string tx3)) rfl ⟨⟨th3, nu3, it3, tx3, rfl, hv3, hx3.trans T.out.symm⟩, below_set4 S5.out.below (Nat.le_refl _) _ _ _ _⟩

set_option maxRecDepth 100000 in
set_option maxHeartbeats 4000000 in
theorem ovalue_sum (key : ByteArray) (hk : key.size ≤ 9223372036854775807) (A : Option Addr) (n c : Nat) (vs : List VerR) (w : World) (h : VersIn w A n vs) (k0 : UInt8) (hc : kindL key.data.toList = k0) (hr : k0 = 99 ∨ k0 = 120 ∨ k0 = 110) :
    Calls Tryd.prog 29 #[.string key, .slice A n c] w fun e w' => RetV e (valueA key.data.toList (vs.map s6)) ∧ Below w.heap.size w w' := by
  obtain ⟨hkey, hd⟩ := kindL_is hc (by rcases hr with rfl | rfl | rfl <;> decide)
  rw [valueA_fold (by rw [hd]; rcases hr with rfl | rfl | rfl <;> decide) (by rw [hd]; rcases hr with rfl | rfl | rfl <;> decide)]
  have KD := fun W => Lib.hid (lkind_any key hk W)
  rw [hc] at KD
  have AF := fun th vn vi vt IV kd nu it tx I W => Lib.hid (oafter_any key hk th vn vi vt IV kd nu it tx I W)
  simp only [actV, valV] at AF
  have hst := run_sto_f64
  have S0 := Sum6.start w
  have hlen := Lib.hid h.len
  have hmx := h.max
  have h := Lib.hid h
  have n1 : ((k0.toNat : Int) == 114) = false := by rcases hr with rfl | rfl | rfl <;> rfl
  have n2 : ((k0.toNat : Int) == 116) = false := by rcases hr with rfl | rfl | rfl <;> rfl
  have hn : Hid (((k0.toNat : Int) == 99) = true ∨ (((k0.toNat : Int) == 99) = false ∧ ((k0.toNat : Int) == 120) = true) ∨ (((k0.toNat : Int) == 99) = false ∧ ((k0.toNat : Int) == 120) = false ∧ ((k0.toNat : Int) == 110) = true)) := by
    rcases hr with rfl | rfl | rfl
    · exact Or.inl rfl
    · exact Or.inr (Or.inl ⟨rfl, rfl⟩)
    · exact Or.inr (Or.inr ⟨rfl, rfl, rfl⟩)
  clear hr hc hd hkey
  rcases hn.out with n3 | ⟨n3, n4⟩ | ⟨n3, n4, n5⟩
  all_goals
    clear hn
    go_enter Tryd.func29, Tryd.ntmps29
    go_wp2_with fail
    generalize (w.alloc (.cells #[.bool false, .float .f64 0, .int .i64 0, .string ⟨#[]⟩] 26)).alloc (.cells #[.bool false, .float .f64 0, .int .i64 0, .string ⟨#[]⟩] 26) = w0 at S0 ⊢
    refine (KD _).out.mono ?_
    rintro e w1 ⟨rfl, rfl⟩
    go_wp2_with fail
    go_loopw [32] (fun i wr => ∃ (k : Nat) (th : Bool) (nu : Nat) (it : Int) (tx : ByteArray), k ≤ n ∧ i = .int .i64 (k : Int) ∧ Sum6 w th nu it tx wr ∧ ValIn nu it tx ∧ Hid (v6 th nu it tx = foldA key.data.toList ((vs.map s6).take k)))
      (fun i _ => (n - intOf i).toNat)
    case atStart => exact ⟨0, _, _, _, _, by omega, rfl, S0, ValIn.zero, by unfold Hid; rw [List.take_zero]; unfold foldA v6 V6.zero; simp [rank_zero]⟩
    case round =>
      obtain ⟨k, th, nu, it, tx, hkn, rfl, S, IV, HV⟩ := hrel
      by_cases hkl : k < n
      · have VI := h.out.below S.below
        obtain ⟨b, off, rfl, hbl, hcells⟩ := VI.some (by omega)
        obtain ⟨r, hr⟩ : ∃ r, vs.getD k VerR.zero = r := ⟨_, rfl⟩
        have RI : r.in_ wr := by rw [← hr]; exact VI.each k hkl
        have I := Lib.hid (VerR.act RI)
        obtain ⟨e0, e1, e2, e3, e4, e5, e6, e7⟩ := VersIn.at_ hcells hkl hr
        have hstep := Lib.hid (foldA_step key.data.toList vs k (by rw [hlen.out]; exact hkl))
        rw [hr, ← HV.out] at hstep
        have hkl' : (k : Int) < (n : Int) := by omega
        obtain ⟨v0, v1, v2, v3⟩ := val_cells S.v
        have z0 := S.v.frozen 0
        have z1 := S.v.frozen 1
        have z2 := S.v.frozen 2
        have z3 := S.v.frozen 3
        have AF := AF th nu it tx IV _ _ _ _ I.out
        have S2 := Lib.hid S
        clear hcells VI S HV RI
        go_wp2_with fail
        go_region_with (go_at_call_of 22 (Value.string r.tx); refine (AF _).out.mono ?_; rintro e w3 ⟨⟨th3, nu3, it3, tx3, rfl, hv3, hx3⟩, g3⟩; have S3 := Sum6.on (by first | exact S2.out | exact S2.out.drew) g3; clear z0 z1 z2 z3; have z0 := S3.v.frozen 0; have z1 := S3.v.frozen 1; have z2 := S3.v.frozen 2; have z3 := S3.v.frozen 3; obtain ⟨d0, d1, d2, d3⟩ := val_cells S3.v; simp only [valV])
        all_goals
          have E : Hid (v6 th3 nu3 it3 tx3 = foldA key.data.toList ((vs.map s6).take (k + 1))) := hx3.trans hstep.out.symm
          have S4 := S3.set th3 nu3 it3 tx3
          clear z0 z1 z2 z3 d0 d1 d2 d3 v0 v1 v2 v3
          simp only [Exit.inBlock, Exit.then]
          go_wp2_with fail
          go_roundw
          case rel => exact ⟨k + 1, th3, nu3, it3, tx3, by omega, by go_num, S4, hv3, E⟩
          case measure => simp [intOf]; omega
      · obtain rfl : k = n := by omega
        obtain ⟨v0, v1, v2, v3⟩ := val_cells S.v
        obtain ⟨r0, r1, r2, r3⟩ := val_cells S.r
        have z0 := S.r.frozen 0
        have z1 := S.r.frozen 1
        have z2 := S.r.frozen 2
        have z3 := S.r.frozen 3
        have S := Lib.hid S
        have E : Hid (v6 th nu it tx = foldA key.data.toList (vs.map s6)) := by
          unfold Hid
          rw [HV.out, List.take_of_length_le (by rw [List.length_map, hlen.out]; exact Nat.le_refl _)]
        clear HV
        go_wp2_with fail
        try simp only [Exit.inBlock, Exit.then]
        exact ovalue_end (blk_set4 S.out.r (.bool th) (.float .f64 nu) (.int .i64 it) (.string tx)) rfl ⟨⟨th, nu, it, tx, rfl, IV, E.out⟩, below_set4 S.out.below (Nat.le_refl _) _ _ _ _⟩

theorem ovalue_any (key : ByteArray) (hk : key.size ≤ 9223372036854775807) (A : Option Addr) (n c : Nat) (vs : List VerR) (w : World) (h : VersIn w A n vs) :
    Calls Tryd.prog 29 #[.string key, .slice A n c] w fun e w' => RetV e (valueA key.data.toList (vs.map s6)) ∧ Below w.heap.size w w' := by
  rcases kindL_cases key.data.toList with ⟨h0, h1⟩ | h1 | h1 | h1 | h1 | h1
  · exact ovalue_no key hk A n c vs w h0 h1
  · exact ovalue_best key hk A n c vs w h _ h1 (Or.inl rfl)
  · exact ovalue_best key hk A n c vs w h _ h1 (Or.inr rfl)
  · exact ovalue_sum key hk A n c vs w h _ h1 (Or.inl rfl)
  · exact ovalue_sum key hk A n c vs w h _ h1 (Or.inr (Or.inl rfl))
  · exact ovalue_sum key hk A n c vs w h _ h1 (Or.inr (Or.inr rfl))
end Go.Proofs.YthacdegaeokgnaaDoor

namespace Go.Proofs.YthacdegaeokgnaaDoor
open Go.RowKit

theorem wf_f64 {a : Nat} (h : (Lit.float .f64 a).wf = true) : a < 18446744073709551616 := by
  simp [Lit.wf] at h
  exact h


theorem rank_max (a b : Nat) : rankN (maxN a b) = max (rankN a) (rankN b) := by
  unfold maxN
  rcases Nat.lt_trichotomy (rankN a) (rankN b) with h | h | h
  · rw [cmpN_lt h, if_pos (by decide)]; omega
  · rw [cmpN_eq h, if_neg (by decide)]; omega
  · rw [cmpN_gt h, if_neg (by decide)]; omega
theorem rank_min (a b : Nat) : rankN (minN a b) = min (rankN a) (rankN b) := by
  unfold minN
  rcases Nat.lt_trichotomy (rankN a) (rankN b) with h | h | h
  · rw [cmpN_lt h, if_neg (by decide)]; omega
  · rw [cmpN_eq h, if_neg (by decide)]; omega
  · rw [cmpN_gt h, if_pos (by decide)]; omega

theorem same_true {a b : Nat} (h : rankN a = rankN b) : (cmpN a b == 0) = true := by rw [beq_iff_eq]; exact cmpN_eq h
theorem same_false {a b : Nat} (h : rankN a ≠ rankN b) : (cmpN a b == 0) = false := by rw [beq_eq_false_iff_ne]; intro e; exact h ((cmpN_zero a b).1 e)
theorem cmp_le {a b : Nat} (h : rankN a ≤ rankN b) : cmpN a b ≤ 0 := by unfold cmpN; split <;> (try split) <;> omega
theorem rank_nanw : rankN 9221120237041090561 = 0 := by decide
end Go.Proofs.YthacdegaeokgnaaDoor

namespace Go.Proofs.YthacdegaeokgnaaDoor
open Go.RowKit

theorem text_nan (x : Nat) (h : isN x = true) : textN x = [110, 97, 110] := by unfold textN; rw [h]; rfl
theorem text_same (a b : Nat) (ha : a < 18446744073709551616) (hb : b < 18446744073709551616) : (textN a == textN b) = (cmpN a b == 0) := by
  rw [Bool.eq_iff_iff, beq_iff_eq, beq_iff_eq]
  constructor
  · intro h
    cases na : isN a
    · have h1 := parse_text a ha na
      cases nb : isN b
      · have h2 := parse_text b hb nb
        rw [h, h2] at h1
        injection h1 with h1 _
        rw [h1]
        exact cmpN_self a
      · rw [h, text_nan b nb] at h1
        have h3 : parseN [110, 97, 110] = (9221120237041090561, 0) := by decide
        rw [h3] at h1
        injection h1 with h1 _
        rw [← h1] at na
        exact absurd na (by decide)
    · cases nb : isN b
      · have h2 := parse_text b hb nb
        rw [← h, text_nan a na] at h2
        have h3 : parseN [110, 97, 110] = (9221120237041090561, 0) := by decide
        rw [h3] at h2
        injection h2 with h2 _
        rw [← h2] at nb
        exact absurd nb (by decide)
      · exact cmpN_eq (by rw [rank_nan a na, rank_nan b nb])
  · intro h
    have h := (cmpN_zero a b).1 h
    cases na : isN a
    · rw [rank_inj a b ha hb na h]
    · cases nb : isN b
      · have := rank_pos b hb nb
        rw [rank_nan a na] at h
        omega
      · rw [text_nan a na, text_nan b nb]
end Go.Proofs.YthacdegaeokgnaaDoor

namespace Go.Proofs.YthacdegaeokgnaaDoor
open Go.RowKit

theorem dec_inj {u v : Nat} (h : Lib.decDigits u = Lib.decDigits v) : u = v := by
  have h1 := digs_dec u [] 0
  have h2 := digs_dec v [] 0
  rw [h] at h1
  rw [h1] at h2
  simpa [digs] using h2
theorem itoa_inj {x y : Int} (h : Lib.itoa x = Lib.itoa y) : x = y := by
  have h45 : ∀ u v : Nat, 45 :: Lib.decDigits u ≠ Lib.decDigits v := by
    intro u v e
    have := dec_digit v 45 (by rw [← e]; simp)
    have e2 : (45 : UInt8).toNat = 45 := by decide
    omega
  unfold Lib.itoa at h
  by_cases hx : x < 0
  · by_cases hy : y < 0
    · rw [if_pos hx, if_pos hy] at h
      have := dec_inj (List.cons.inj h).2
      omega
    · rw [if_pos hx, if_neg hy] at h
      exact absurd h (h45 _ _)
  · by_cases hy : y < 0
    · rw [if_neg hx, if_pos hy] at h
      exact absurd h.symm (h45 _ _)
    · rw [if_neg hx, if_neg hy] at h
      have := dec_inj h
      omega

end Go.Proofs.YthacdegaeokgnaaDoor

namespace Go.Proofs.YthacdegaeokgnaaDoor
open Go.RowKit

def posAt (w : World) (p : Nat) : Nat := match w.cell? ⟨p, 1, none⟩ with
  | some v => (intOf v).toNat
  | none => 0
theorem posAt_blk {w : World} {p k : Nat} {t : TypeId} {x : Value} (h : Blk w p t #[x, .int .i64 (k : Int)]) : posAt w p = k := by
  unfold posAt
  rw [h.cell 1]
  simp [intOf]

theorem Byt.far {w w' : World} {B p : Nat} {e : TypeId} {v : Value} {l : List UInt8} (h : Byt w B e v l) (hg : w.grownBy w' (some p)) (hp : p < B) : Byt w' B e v l :=
  World.ownsRow.kept h hg (by
    rcases hv : v.ownBlock with _ | k
    · exact .inl rfl
    · refine .inr fun e' => ?_
      have := World.ownsRow.lt h k hv
      injection e' with e'
      omega)
/-- An append to bytes of the call's own leaves the reader. -/
theorem Byt.own {w w' : World} {B p : Nat} {e t : TypeId} {v : Value} {l : List UInt8} {cs : Array Value} (h : Byt w B e v l) (hg : w.grownBy w' v.ownBlock) (hb : Blk w p t cs) (hp : p < B) : Blk w' p t cs :=
  hb.grown hg fun e' => by
    have := World.ownsRow.lt h p e'.symm
    omega
theorem Byt.only {a w w' : World} {p : Nat} {e : TypeId} {v : Value} {l : List UInt8} (h : Byt w a.heap.size e v l) (hg : w.grownBy w' v.ownBlock) (ha : a.grownBy w (some p)) : a.grownBy w' (some p) :=
  ⟨hg.os.trans ha.os, hg.tape.trans ha.tape, hg.output.trans ha.output, Nat.le_trans ha.size hg.size, fun i hi hne =>
    (hg.block i (Nat.lt_of_lt_of_le hi ha.size) (fun e' => by have := World.ownsRow.lt h i e'.symm; omega)).trans (ha.block i hi hne)⟩

end Go.Proofs.YthacdegaeokgnaaDoor

namespace Go.Proofs.YthacdegaeokgnaaDoor
open Go.RowKit

theorem hexv_hx : ∀ n < 16, hexv (hx n).toNat = some n ∧ 48 ≤ (hx n).toNat ∧ (hx n).toNat ≤ 102 := by decide

theorem uq_qb (c : UInt8) (r acc : List UInt8) (m : Nat) : onto acc m (uq (qb c ++ r)) = onto (acc ++ [c]) (m + (qb c).length) (uq r) := by
  have hc := UInt8.toNat_lt c
  by_cases h1 : c.toNat < 32 ∨ 126 < c.toNat
  · have hq : qb c = [92, 120, hx (c.toNat / 16), hx (c.toNat % 16)] := by unfold qb; rw [if_pos h1]
    have he : esc (120 :: hx (c.toNat / 16) :: hx (c.toNat % 16) :: r) = some (c, 3) := by
      rw [esc, if_neg (by decide), if_pos (by decide), escx_cons, (hexv_hx _ (by omega)).1, (hexv_hx _ (by omega)).1]
      have e : 16 * (c.toNat / 16) + c.toNat % 16 = c.toNat := by omega
      show some (UInt8.ofNat _, 3) = _
      rw [e, UInt8.ofNat_toNat]
    rw [hq]
    show onto acc m (uq (92 :: 120 :: hx (c.toNat / 16) :: hx (c.toNat % 16) :: r)) = _
    rw [uq_esc _ _ c 3 (by decide) he]
    rfl
  · by_cases h2 : c.toNat = 34 ∨ c.toNat = 92
    · have hq : qb c = [92, c] := by unfold qb; rw [if_neg h1, if_pos h2]
      have he : esc (c :: r) = some (c, 1) := by rw [esc, if_pos h2]
      rw [hq]
      show onto acc m (uq (92 :: c :: r)) = _
      rw [uq_esc _ _ c 1 (by decide) he]
      rfl
    · have hq : qb c = [c] := by unfold qb; rw [if_neg h1, if_neg h2]
      rw [hq]
      show onto acc m (uq (c :: r)) = _
      rw [uq_plain _ _ (by omega) (by omega) (by omega)]
      rfl
theorem uq_flat (l : List UInt8) : ∀ (r acc : List UInt8) (m : Nat), onto acc m (uq ((l.map qb).flatten ++ 34 :: r)) = some (acc ++ l, m + (l.map qb).flatten.length + 1) := by
  induction l with
  | nil => intro r acc m; rw [List.map_nil, List.flatten_nil, List.nil_append, uq_end _ _ (by decide)]; simp [onto]
  | cons c t ih =>
    intro r acc m
    rw [List.map_cons, List.flatten_cons, List.append_assoc, uq_qb, ih]
    simp
    omega
theorem unq_quote (l r : List UInt8) : unq (quoteL l ++ r) = some (l, (quoteL l).length) := by
  unfold quoteL
  rw [List.append_assoc, List.cons_append, unq, if_pos (by decide)]
  show onto [] 1 (uq ((l.map qb).flatten ++ 34 :: r)) = _
  rw [uq_flat]
  simp
  omega
theorem qb_plain (c : UInt8) : ∀ d ∈ qb c, 32 ≤ d.toNat ∧ d.toNat ≤ 126 := by
  have hc := UInt8.toNat_lt c
  intro d hd
  unfold qb at hd
  split at hd
  · have h1 := hexv_hx (c.toNat / 16) (by omega)
    have h2 := hexv_hx (c.toNat % 16) (by omega)
    simp at hd
    rcases hd with rfl | rfl | rfl | rfl
    · decide
    · decide
    · omega
    · omega
  · split at hd
    · simp at hd
      rcases hd with rfl | rfl
      · decide
      · omega
    · simp at hd
      subst hd
      omega
theorem quote_plain (l : List UInt8) : ∀ d ∈ quoteL l, 32 ≤ d.toNat ∧ d.toNat ≤ 126 := by
  intro d hd
  unfold quoteL at hd
  rw [List.mem_append, List.mem_cons, List.mem_singleton] at hd
  rcases hd with (rfl | h) | rfl
  · decide
  · obtain ⟨m, hm, hd⟩ := List.mem_flatten.1 h
    obtain ⟨c, _, rfl⟩ := List.mem_map.1 hm
    exact qb_plain c d hd
  · decide
theorem quote_len (l : List UInt8) : 2 ≤ (quoteL l).length ∧ (quoteL l).length ≤ 4 * l.length + 2 := by
  have := flat_len l
  unfold quoteL
  rw [List.length_append, List.length_cons, List.length_singleton]
  omega
end Go.Proofs.YthacdegaeokgnaaDoor

namespace Go.Proofs.YthacdegaeokgnaaDoor
open Go.RowKit

def noneL : List UInt8 := [110, 111, 110, 101]
theorem quote_inj {a b : List UInt8} (h : quoteL a = quoteL b) : a = b := by
  have h1 := unq_quote a []
  have h2 := unq_quote b []
  rw [h] at h1
  rw [h1] at h2
  exact (Prod.mk.inj (Option.some.inj h2)).1
theorem quote_none (a : List UInt8) : quoteL a ≠ noneL := by
  unfold quoteL noneL
  intro h
  exact absurd (List.cons.inj h).1 (by decide)
theorem text_none (x : Nat) (hx : x < 18446744073709551616) : textN x ≠ noneL := by
  intro h
  cases hn : isN x
  · have h1 := parse_text x hx hn
    rw [h, show parseN noneL = (0, 4) from by decide +kernel] at h1
    exact absurd (Prod.mk.inj h1).2 (by decide)
  · rw [text_nan x hn] at h
    exact absurd h (by decide)
/-- What an act makes of nothing, by its key. -/
def ShapeV (c : UInt8) (th : Bool) (r : Nat) (vi : Int) (vt : List UInt8) : Prop :=
  ((c = 114 ∨ c = 120 ∨ c = 110) ∧ ((th = true ∧ vi = 0 ∧ vt = []) ∨ (th = false ∧ r = zr ∧ vi = 0 ∧ vt = []))) ∨
  (c = 116 ∧ ((th = true ∧ r = zr ∧ vi = 0) ∨ (th = false ∧ r = zr ∧ vi = 0 ∧ vt = []))) ∨ (c = 99 ∧ th = true ∧ r = zr ∧ vt = [])
theorem shape_of {key : List UInt8} {a : A6} (ha : fitsA key a = true) {th : Bool} {r : Nat} {vi : Int} {vt : List UInt8} (h : (⟨th, r, vi, vt⟩ : V6) = doneA V6.zero a) : ShapeV (key.headD 0) th r vi vt := by
  unfold ShapeV
  rcases fits_cases ha with ⟨hc, h0 | h0⟩ | ⟨hc, h0 | h0⟩ | ⟨hc, h0⟩ | ⟨hc, h0⟩ | ⟨hc, h0⟩
  all_goals
    unfold doneA V6.zero at h
    simp [h0] at h
    rw [hc]
    simp [h]
theorem texts_same {key : List UInt8} (hk : isKeyL key = true) {th : Bool} {vn : Nat} {vi : Int} {vt : ByteArray} {th' : Bool} {vn' : Nat} {vi' : Int} {vt' : ByteArray} (hv : vn < 18446744073709551616) (hv' : vn' < 18446744073709551616)
    (h1 : ShapeV (key.headD 0) th (rankN vn) vi vt.data.toList) (h2 : ShapeV (key.headD 0) th' (rankN vn') vi' vt'.data.toList) :
    (textV key th vn vi vt.data.toList == textV key th' vn' vi' vt'.data.toList) = (v6 th vn vi vt).same (v6 th' vn' vi' vt') := by
  have tn := text_none vn hv
  have tn' := text_none vn' hv'
  have ts := text_same vn vn' hv hv'
  rw [cmp_rank] at ts
  have q1 := quote_none vt.data.toList
  have q2 := quote_none vt'.data.toList
  unfold noneL at tn tn' q1 q2
  unfold textV V6.same v6
  rw [hk]
  unfold ShapeV at h1 h2
  generalize key.headD 0 = c at *
  rcases h1 with ⟨hc, ⟨a1, a2, a3⟩ | ⟨a1, a2, a3, a4⟩⟩ | ⟨hc, ⟨a1, a2, a3⟩ | ⟨a1, a2, a3, a4⟩⟩ | ⟨hc, a1, a2, a3⟩
  all_goals
    rcases h2 with ⟨hd, ⟨b1, b2, b3⟩ | ⟨b1, b2, b3, b4⟩⟩ | ⟨hd, ⟨b1, b2, b3⟩ | ⟨b1, b2, b3, b4⟩⟩ | ⟨hd, b1, b2, b3⟩
  all_goals first
    | (exfalso; rcases hc with rfl | rfl | rfl <;> rcases hd with h | h | h <;> exact absurd h (by decide))
    | (exfalso; rcases hc with rfl | rfl | rfl <;> exact absurd hd (by decide))
    | (exfalso; rcases hd with rfl | rfl | rfl <;> exact absurd hc (by decide))
    | (exfalso; rw [hc] at hd; exact absurd hd (by decide))
    | (have n1 : c ≠ 99 := by rcases hc with rfl | rfl | rfl <;> decide
       have n2 : c ≠ 116 := by rcases hc with rfl | rfl | rfl <;> decide
       simp only [a1, b1, a2, b2, a3, b3, n1, n2, if_false, Bool.and_self, Bool.false_and, Bool.false_eq_true, if_true, true_and, and_true, false_and, decide_false, ts]
       done)
    | (have n1 : c ≠ 99 := by rcases hc with rfl | rfl | rfl <;> decide
       have n2 : c ≠ 116 := by rcases hc with rfl | rfl | rfl <;> decide
       simp [a1, b1, a2, b2, a3, b3, n1, n2, tn, Ne.symm tn']
       done)
    | (have n1 : c ≠ 99 := by rcases hc with rfl | rfl | rfl <;> decide
       have n2 : c ≠ 116 := by rcases hc with rfl | rfl | rfl <;> decide
       simp [a1, b1, a2, b2, a3, b3, a4, b4]
       done)
    | (subst hc
       have e : (quoteL vt.data.toList == quoteL vt'.data.toList) = decide (vt.data.toList = vt'.data.toList) := by
         rw [Bool.eq_iff_iff, beq_iff_eq, decide_eq_true_eq]
         exact ⟨quote_inj, fun h => by rw [h]⟩
       simp only [a1, b1, a2, b2, a3, b3, Bool.and_self, Bool.false_and, Bool.false_eq_true, if_true, true_and, and_true, e, show (116 : UInt8) ≠ 99 from by decide, if_false]
       done)
    | (subst hc
       simp [a1, b1, a2, b2, a3, b3, q1, Ne.symm q2]
       done)
    | (subst hc
       simp [a1, b1, a2, b2, a3, b3, a4, b4]
       done)
    | (subst hc
       have e : (Lib.itoa vi == Lib.itoa vi') = decide (vi = vi') := by
         rw [Bool.eq_iff_iff, beq_iff_eq, decide_eq_true_eq]
         exact ⟨itoa_inj, fun h => by rw [h]⟩
       simp only [a1, b1, a2, b2, a3, b3, Bool.and_self, if_true, true_and, and_true, e]
       done)
end Go.Proofs.YthacdegaeokgnaaDoor

namespace Go.Proofs.YthacdegaeokgnaaDoor

/-- The cells of versions, one behind the other. -/
def cellsV (vs : List VerR) : List Value := vs.flatMap VerR.cells
theorem cells_length (r : VerR) : r.cells.length = 8 := rfl
theorem cellsV_length (vs : List VerR) : (cellsV vs).length = vs.length * 8 := by
  unfold cellsV
  induction vs with
  | nil => rfl
  | cons r vs ih => rw [List.flatMap_cons, List.length_append, ih, cells_length, List.length_cons]; omega
theorem cellsV_append (vs us : List VerR) : cellsV (vs ++ us) = cellsV vs ++ cellsV us := by unfold cellsV; rw [List.flatMap_append]
theorem cellsV_one (r : VerR) : cellsV [r] = r.cells := by unfold cellsV; simp
theorem cellsV_at : ∀ (vs : List VerR) (j k : Nat), j < vs.length → k < 8 → (cellsV vs)[j * 8 + k]? = (vs.getD j VerR.zero).cells[k]?
  | [], j, k, hj, _ => by simp at hj
  | r :: vs, 0, k, _, hk => by
    unfold cellsV
    rw [List.flatMap_cons, Nat.zero_mul, Nat.zero_add, List.getElem?_append_left (by rw [cells_length]; exact hk)]
    rfl
  | r :: vs, j + 1, k, hj, hk => by
    have ih := cellsV_at vs j k (by simpa using hj) hk
    unfold cellsV at ih ⊢
    rw [List.flatMap_cons, List.getElem?_append_right (by rw [cells_length]; omega), cells_length, show (j + 1) * 8 + k - 8 = j * 8 + k from by omega, ih]
    rfl
theorem cellsV_one_cell (vs : List VerR) : ∀ u ∈ cellsV vs, u.oneCell' = true := by
  intro u hu
  unfold cellsV at hu
  obtain ⟨r, _, hr⟩ := List.mem_flatMap.1 hu
  unfold VerR.cells at hr
  simp only [List.mem_cons, List.not_mem_nil, or_false] at hr
  rcases hr with rfl | rfl | rfl | rfl | rfl | rfl | rfl | rfl <;> rfl
/-- What stands at versions that came in, cell by cell. -/
theorem vers_news {w : World} {b off n : Nat} {vs : List VerR} (hl : vs.length = n) (hc : ∀ j, j < n → ∀ k, k < 8 → w.cell? ⟨b, off + j * 8 + k, none⟩ = (vs.getD j VerR.zero).cells[k]?) :
    ∀ j u, (cellsV vs)[j]? = some u → w.cell? ((⟨b, off, none⟩ : Addr).add j) = some u := by
  intro j u hu
  have hj : j < vs.length * 8 := by rw [← cellsV_length]; exact (List.getElem?_eq_some_iff.1 hu).1
  have h := hc (j / 8) (by omega) (j % 8) (by omega)
  have e : off + j / 8 * 8 + j % 8 = off + j := by omega
  have e2 : j / 8 * 8 + j % 8 = j := by omega
  have h2 := cellsV_at vs (j / 8) (j % 8) (by omega) (by omega)
  rw [e2] at h2
  rw [e] at h
  rw [Go.WideShapes.add_plain]
  rw [h, ← h2, hu]

/-- A row of versions of the call's own. -/
def VRow (w : World) (B : Nat) (e : TypeId) (v : Value) (vs : List VerR) : Prop := w.ownsRow B e 8 v vs.length (cellsV vs)
theorem VRow.nil (w : World) (B : Nat) (e : TypeId) : VRow w B e (.slice none 0 0) [] := World.ownsRow_nil _ _ _ _
theorem VRow.in_ {w : World} {B : Nat} {e : TypeId} {v : Value} {vs : List VerR} (h : VRow w B e v vs) (he : ∀ j, j < vs.length → (vs.getD j VerR.zero).in_ w) :
    ∃ A c, v = .slice A vs.length c ∧ VersIn w A vs.length vs := by
  rcases h.2 with ⟨hv, hn⟩ | ⟨g, cap, cur, hv, hg, ho, hcap, hm, hs, ht⟩
  · exact ⟨none, 0, by rw [hv, hn], rfl, by omega, fun hp => by omega, he⟩
  · have hlt : g < w.heap.size := by
      rcases Nat.lt_or_ge g w.heap.size with h | h
      · exact h
      · rw [Array.getElem?_eq_none h] at ho; cases ho
    unfold maxLen at hm
    refine ⟨some ⟨g, 0, none⟩, cap, hv, rfl, by omega, fun _ => ⟨g, 0, rfl, hlt, fun j hj k hk => ?_⟩, he⟩
    have h2 := cellsV_at vs j k hj hk
    have h3 : j * 8 + k < vs.length * 8 := by omega
    obtain ⟨u, hu⟩ : ∃ u, (cellsV vs)[j * 8 + k]? = some u := ⟨_, List.getElem?_eq_getElem (by rw [cellsV_length]; exact h3)⟩
    have h4 := World.ownsRow.cells (g := g) h (by rw [hv]; rfl) (j * 8 + k) u hu
    rw [Go.WideShapes.add_plain] at h4
    rw [Nat.zero_add] at h4 ⊢
    rw [h4, ← h2, hu]
end Go.Proofs.YthacdegaeokgnaaDoor

namespace Go.Proofs.YthacdegaeokgnaaDoor
open Go.RowKit

theorem append_keep {P : Program} (w : World) (base : Nat) (t ty e : TypeId) (i : TypeInfo) (z : Value) (size bytes : Nat) (ht : P.underlying t = some (.slice e)) (hi : P.info? e = some i) (hz : i.zero = some z)
    (hsize : i.size = size) (hby : i.bytes = bytes) (v : Value) (n : Nat) (xs : List Value) (hown : w.ownsRow base e size v n xs)
    (a : Addr) (m c : Nat) (news : List Value) (hl : news.length = m * size) (hnews : ∀ j u, news[j]? = some u → w.cell? (a.add j) = some u) (h1 : ∀ u ∈ news, u.oneCell' = true)
    (h63 : n + m ≤ maxLen) (hbytes : (n + m) * bytes ≤ 140737488355328) (v' : Value) (w' : World) (hr : (Builtin.append_ #[t, t] ty #[v, .slice (some a) m c]).run P w = .ok v' w') :
    w'.ownsRow base e size v n xs ∧ (v'.ownBlock = v.ownBlock ∨ ∀ g, v'.ownBlock = some g → w.heap.size ≤ g) := by
  subst hsize
  subst hby
  have hsmall : n + m ≤ 9223372036854775807 := by simp only [maxLen] at h63; omega
  rcases hown.2 with ⟨rfl, rfl⟩ | ⟨g, cap, cur, rfl, hbg, hg, hnc, hcm, hcs, htake⟩
  · have hx : xs = [] := List.eq_nil_of_length_eq_zero (by simpa using hown.1)
    subst hx
    refine ⟨World.ownsRow_nil _ _ _ _, ?_⟩
    by_cases hm : m = 0
    · subst hm
      have hr2 : (Builtin.append_ #[t, t] ty #[.slice none 0 0, .slice (some a) 0 c]).run P w = .ok (.slice none 0 0) w := by
        simp [Builtin.append_, run_underlying ht, sizeOf, typeInfo, hi, Builtin.lenOf, Builtin.firstCells, loadCells, loadCellsFrom]
      rw [hr] at hr2
      injection hr2 with e1 e2
      left
      rw [e1]
    · have hr2 := run_append_nil (P := P) w t ty e i z ht hi hz a m c news hl hnews (by omega) (by omega) (by have hb := hbytes; simp only [Nat.zero_add] at hb; omega)
      rw [hr] at hr2
      injection hr2 with e1 e2
      right
      intro g hg
      rw [e1] at hg
      simp [Value.ownBlock] at hg
      omega
  · by_cases hroom : n + m ≤ cap
    · have hfit : n * i.size + news.length ≤ cur.size := by rw [hl, hcs, ← Nat.add_mul]; exact Nat.mul_le_mul_right _ hroom
      have hr2 := run_append_room (P := P) w t ty e i ht hi g n cap cur hg a m c news hl hnews h1 hroom hfit
      rw [hr] at hr2
      injection hr2 with e1 e2
      refine ⟨⟨hown.1, .inr ⟨g, cap, _, rfl, hbg, by rw [e2]; exact setRow_heap w g cur _ e _ hg, hnc, hcm, ?_, ?_⟩⟩, Or.inl (by rw [e1]; rfl)⟩
      · simp only [List.size_toArray, List.length_append, List.length_take, List.length_drop, Array.length_toList]
        omega
      · rw [htake]
        have hlx : xs.length = n * i.size := hown.1
        show List.take (n * i.size) (xs ++ news ++ _) = xs
        rw [List.append_assoc, ← hlx]
        exact List.take_left
    · have holds : ∀ j u, xs[j]? = some u → w.cell? ((⟨g, 0, none⟩ : Addr).add j) = some u := hown.cells (g := g) rfl
      have hr2 := run_append_grow (P := P) w t ty e i z ht hi hz ⟨g, 0, none⟩ n cap xs hown.1 holds a m c news hl hnews (by omega) (by omega) (growslice_fits (by omega) hbytes)
      rw [hr] at hr2
      injection hr2 with e1 e2
      refine ⟨?_, Or.inr fun k hk => ?_⟩
      · rw [e2]
        exact World.ownsRow.alloc (World.ownsRow.drew hown) _
      · rw [e1] at hk
        simp [Value.ownBlock] at hk
        omega

theorem wp_append_keep {P : Program} (w : World) {o : Oper} {a : Act} {K : Act → World → Prop} {Q : Exit → Act → World → Prop} (s x : Operand) (t : TypeId)
    (ho : o.op = .call { callee := .builtin .append, args := #[s, x], argTypes := #[t, t] })
    (base : Nat) (e : TypeId) (i : TypeInfo) (z : Value) (size bytes : Nat) (ht : P.underlying t = some (.slice e)) (hi : P.info? e = some i) (hz : i.zero = some z)
    (hsize : i.size = size) (hby : i.bytes = bytes) (hzs : z.cells.size = size) (hsz : 0 < size)
    (v : Value) (n : Nat) (xs : List Value) (hs : a.eval s = v) (hown : w.ownsRow base e size v n xs)
    (ad : Addr) (m c : Nat) (news : List Value) (hx : a.eval x = .slice (some ad) m c) (hl : news.length = m * size) (hnews : ∀ j u, news[j]? = some u → w.cell? (ad.add j) = some u) (h1 : ∀ u ∈ news, u.oneCell' = true)
    (h63 : n + m ≤ maxLen) (hbytes : (n + m) * bytes ≤ 140737488355328) (hbase : base ≤ w.heap.size)
    (h : ∀ v' w', w'.ownsRow base e size v' (n + m) (xs ++ news) → w.grownBy w' v.ownBlock → w'.ownsRow base e size v n xs → (v'.ownBlock = v.ownBlock ∨ ∀ g, v'.ownBlock = some g → w.heap.size ≤ g) → K (a.put o.dst v') w') : o.wp P a w K Q := by
  obtain ⟨v', w', hr, h2, h3, _⟩ := run_append_own (P := P) w base t o.type e i z size bytes ht hi hz hsize hby hzs hsz v n xs hown ad m c news hl hnews h1 h63 hbytes hbase
  obtain ⟨h4, h5⟩ := append_keep w base t o.type e i z size bytes ht hi hz hsize hby v n xs hown ad m c news hl hnews h1 h63 hbytes v' w' hr
  unfold Oper.wp execOp
  simp only [ho, resolve, invoke, builtin, Sem.run_bind, Sem.run_pure, Result.andThen_ok, List.map_toArray, List.map_cons, List.map_nil, hs, hx, hr]
  exact h v' w' h2 h3 h4 h5

theorem wpList_append_keep {P : Program} (w : World) {ops : Array Oper} {rest : List Oper} {o : Oper} {a : Act} {Q : Exit → Act → World → Prop} (hgd : o.guard = none) (s x : Operand) (t : TypeId)
    (ho : o.op = .call { callee := .builtin .append, args := #[s, x], argTypes := #[t, t] })
    (base : Nat) (e : TypeId) (i : TypeInfo) (z : Value) (size bytes : Nat) (ht : P.underlying t = some (.slice e)) (hi : P.info? e = some i) (hz : i.zero = some z)
    (hsize : i.size = size) (hby : i.bytes = bytes) (hzs : z.cells.size = size) (hsz : 0 < size)
    (v : Value) (n : Nat) (xs : List Value) (hs : a.eval s = v) (hown : w.ownsRow base e size v n xs)
    (ad : Addr) (m c : Nat) (news : List Value) (hx : a.eval x = .slice (some ad) m c) (hl : news.length = m * size) (hnews : ∀ j u, news[j]? = some u → w.cell? (ad.add j) = some u) (h1 : ∀ u ∈ news, u.oneCell' = true)
    (h63 : n + m ≤ maxLen) (hbytes : (n + m) * bytes ≤ 140737488355328) (hbase : base ≤ w.heap.size)
    (h : ∀ v' w', w'.ownsRow base e size v' (n + m) (xs ++ news) → w.grownBy w' v.ownBlock → w'.ownsRow base e size v n xs → (v'.ownBlock = v.ownBlock ∨ ∀ g, v'.ownBlock = some g → w.heap.size ≤ g) → wpList P ops Q rest (a.put o.dst v') w') :
    wpList P ops Q (o :: rest) a w := by
  refine wpList_plain hgd fun K hK => ?_
  exact wp_append_keep w s x t ho base e i z size bytes ht hi hz hsize hby hzs hsz v n xs hs hown ad m c news hx hl hnews h1 h63 hbytes hbase fun v' w' a1 a2 a3 a4 => hK _ _ (h v' w' a1 a2 a3 a4)

theorem step_append_keep {P : Program} {w : World} {ops : Array Oper} {o : Oper} {a : Act} {K : Act → World → Prop} {Q : Exit → Act → World → Prop} {E : Prop} (hgd : o.guard = none) (s x : Operand) (t : TypeId)
    (ho : o.op = .call { callee := .builtin .append, args := #[s, x], argTypes := #[t, t] })
    (base : Nat) (e : TypeId) (i : TypeInfo) (z : Value) (size bytes : Nat) (ht : P.underlying t = some (.slice e)) (hi : P.info? e = some i) (hz : i.zero = some z)
    (hsize : i.size = size) (hby : i.bytes = bytes) (hzs : z.cells.size = size) (hsz : 0 < size)
    (v : Value) (n : Nat) (xs : List Value) (hs : a.eval s = v) (hown : w.ownsRow base e size v n xs)
    (ad : Addr) (m c : Nat) (news : List Value) (hx : a.eval x = .slice (some ad) m c) (hl : news.length = m * size) (hnews : ∀ j u, news[j]? = some u → w.cell? (ad.add j) = some u) (h1 : ∀ u ∈ news, u.oneCell' = true)
    (h63 : n + m ≤ maxLen) (hbytes : (n + m) * bytes ≤ 140737488355328) (hbase : base ≤ w.heap.size)
    (h : ∀ v' w', w'.ownsRow base e size v' (n + m) (xs ++ news) → w.grownBy w' v.ownBlock → w'.ownsRow base e size v n xs → (v'.ownBlock = v.ownBlock ∨ ∀ g, v'.ownBlock = some g → w.heap.size ≤ g) → K (a.put o.dst v') w') :
    if Region.wanted o (yielded ops a.tmps) = true then Oper.wp P o a w K Q else E := by
  rw [if_pos (by simp [Region.wanted, hgd])]
  exact wp_append_keep w s x t ho base e i z size bytes ht hi hz hsize hby hzs hsz v n xs hs hown ad m c news hx hl hnews h1 h63 hbytes hbase h

/-- Nothing put behind nothing. -/
theorem wpList_append_nothing {P : Program} (w : World) {ops : Array Oper} {rest : List Oper} {o : Oper} {a : Act} {Q : Exit → Act → World → Prop} (hgd : o.guard = none) (s x : Operand) (t e : TypeId) (i : TypeInfo)
    (ho : o.op = .call { callee := .builtin .append, args := #[s, x], argTypes := #[t, t] }) (ht : P.underlying t = some (.slice e)) (hi : P.info? e = some i)
    (hs : a.eval s = .slice none 0 0) (A : Option Addr) (c : Nat) (hx : a.eval x = .slice A 0 c)
    (h : wpList P ops Q rest (a.put o.dst (.slice none 0 0)) w) : wpList P ops Q (o :: rest) a w := by
  refine wpList_plain hgd fun _ hK => ?_
  have hr : (Builtin.append_ #[t, t] o.type #[.slice none 0 0, .slice A 0 c]).run P w = .ok (.slice none 0 0) w := by
    cases A <;> simp [Builtin.append_, run_underlying ht, sizeOf, typeInfo, hi, Builtin.lenOf, Builtin.firstCells, loadCells, loadCellsFrom]
  unfold Oper.wp execOp
  simp only [ho, resolve, invoke, builtin, Sem.run_bind, Sem.run_pure, Result.andThen_ok, List.map_toArray, List.map_cons, List.map_nil, hs, hx, hr]
  exact hK _ _ h

/-! ### Rows of numbers of the call's own, each in a block of its own -/
abbrev Row := Value × List Int
/-- v's block is none of w's. -/
def Off (v u : Value) : Prop := ∀ g, v.ownBlock = some g → u.ownBlock ≠ some g
theorem Off.symm {v u : Value} (h : Off v u) : Off u v := fun g hg hv => h g hv hg

structure Rows (w : World) (B : Nat) (e : TypeId) (rs : List Row) : Prop where
  each : ∀ r ∈ rs, Nums w B e r.1 r.2
  apart : rs.Pairwise fun r s => Off r.1 s.1

section
variable {w w' : World} {B : Nat} {e : TypeId} {rs : List Row}
theorem Rows.below (h : Rows w B e rs) {B' : Nat} (hb : Below B' w w') (hB : w.heap.size ≤ B') : Rows w' B e rs := ⟨fun r hr => (h.each r hr).below hb hB, h.apart⟩
theorem Nums.lt_ {v : Value} {zs : List Int} (h : Nums w B e v zs) {g : Nat} (hg : v.ownBlock = some g) : B ≤ g ∧ g < w.heap.size := World.ownsRow.lt h g hg
/-- A row that a call made behind them. -/
theorem Rows.add (h : Rows w B e rs) (hb : Below w.heap.size w w') {v : Value} {zs : List Int} (hN : Nums w' w.heap.size e v zs) (hB : B ≤ w.heap.size) : Rows w' B e ((v, zs) :: rs) :=
  ⟨fun r hr => by
    rcases List.mem_cons.1 hr with rfl | hr
    · exact hN.low hB
    · exact (h.each r hr).below hb (Nat.le_refl _),
   List.pairwise_cons.2 ⟨fun r hr g hg hv => by
    have h1 := (hN.lt_ hg).1
    have h2 := ((h.each r hr).lt_ hv).2
    omega, h.apart⟩⟩
end
end Go.Proofs.YthacdegaeokgnaaDoor

namespace Go.Proofs.YthacdegaeokgnaaDoor
open Go.RowKit

theorem verinfo : (Tryd.prog.info? 44).map (fun i => (i.zero, i.size, i.bytes)) = some (some (verV ⟨#[]⟩ none 0 0 0 0 0 0 0 ⟨#[]⟩), 8, 96) := by kernel_rfl

theorem VRow.below {w w' : World} {B B' : Nat} {e : TypeId} {v : Value} {vs : List VerR} (h : VRow w B e v vs) (hb : Below B' w w') (hB : w.heap.size ≤ B') : VRow w' B e v vs := by
  unfold VRow at h ⊢
  refine World.ownsRow.kept (row := none) h ⟨hb.os, hb.tape, hb.output, hb.size, fun i hi _ => hb.block i (Nat.lt_of_lt_of_le hi hB)⟩ ?_
  by_cases h0 : v.ownBlock = none
  · exact Or.inl h0
  · exact Or.inr h0
theorem VRow.grown {a w w' : World} {B : Nat} {e : TypeId} {v : Value} {vs : List VerR} (h : VRow w B e v vs) (hb : Below B a w) (hB : B ≤ w.heap.size) (hg : w.grownBy w' v.ownBlock) : Below B a w' := hb.grown hg hB (fun k hk => (World.ownsRow.lt h k hk).1)

/-- 'append(r, l...)' of versions that are there. -/
theorem wpList_append_vers (w : World) {ops : Array Oper} {rest : List Oper} {o : Oper} {a : Act} {Q : Exit → Act → World → Prop} (hgd : o.guard = none) (s x : Operand)
    (ho : o.op = .call { callee := .builtin .append, args := #[s, x], argTypes := #[40, 40] })
    {B : Nat} {v : Value} {vs us : List VerR} (hs : a.eval s = v) (R : VRow w B 44 v vs) (b off n c : Nat) (hx : a.eval x = .slice (some ⟨b, off, none⟩) n c)
    (hl : us.length = n) (hc : ∀ j, j < n → ∀ k, k < 8 → w.cell? ⟨b, off + j * 8 + k, none⟩ = (us.getD j VerR.zero).cells[k]?) (hv : vs.length ≤ 100000) (hn : n ≤ 100000) (hB : B ≤ w.heap.size)
    (h : ∀ v' w', VRow w' B 44 v' (vs ++ us) → w.grownBy w' v.ownBlock → wpList Tryd.prog ops Q rest (a.put o.dst v') w') : wpList Tryd.prog ops Q (o :: rest) a w := by
  obtain ⟨i0, hi0, hz0, hz1, hz2⟩ := info_parts verinfo
  refine wpList_append_own w hgd s x 40 ho B 44 i0 _ 8 96 Tryd.underlying40 hi0 hz0 hz1 hz2 rfl (by decide) v vs.length (cellsV vs) hs R ⟨b, off, none⟩ n c (cellsV us) hx (by rw [cellsV_length, hl]) (vers_news hl hc) (cellsV_one_cell us) (by unfold maxLen; omega) (by omega) hB ?_
  intro v' w' h1 h2 _
  refine h v' w' ?_ h2
  unfold VRow
  rw [cellsV_append, List.length_append, hl]
  exact h1
/-- 'append(nil, l...)' of versions that came in. -/
theorem wpList_append_vers0 (w : World) {ops : Array Oper} {rest : List Oper} {o : Oper} {a : Act} {Q : Exit → Act → World → Prop} (hgd : o.guard = none) (s x : Operand)
    (ho : o.op = .call { callee := .builtin .append, args := #[s, x], argTypes := #[40, 40] })
    {A : Option Addr} {n c : Nat} {vs : List VerR} (hs : a.eval s = .slice none 0 0) (hx : a.eval x = .slice A n c) (I : VersIn w A n vs) (hn : n ≤ 100000)
    (h : ∀ v' w', VRow w' w.heap.size 44 v' vs → Below w.heap.size w w' → wpList Tryd.prog ops Q rest (a.put o.dst v') w') : wpList Tryd.prog ops Q (o :: rest) a w := by
  by_cases h0 : n = 0
  · subst h0
    obtain ⟨i0, hi0, hz0, hz1, hz2⟩ := info_parts verinfo
    obtain rfl : vs = [] := List.eq_nil_of_length_eq_zero I.len
    exact wpList_append_nothing w hgd s x 40 44 i0 ho Tryd.underlying40 hi0 hs A c hx (h _ _ (VRow.nil w _ _) (Below.refl _ _))
  · obtain ⟨b, off, rfl, _, hc⟩ := I.some (by omega)
    refine wpList_append_vers w hgd s x ho (B := w.heap.size) (vs := []) (us := vs) hs (VRow.nil w _ _) b off n c hx I.len hc (by simp) hn (Nat.le_refl _) ?_
    intro v' w' h1 h2
    rw [List.nil_append] at h1
    exact h v' w' h1 (VRow.grown (VRow.nil w _ 44) (Below.refl _ _) (Nat.le_refl _) h2)
/-- 'append(r, v)'. -/
theorem wpList_append_ver1 (w : World) {ops : Array Oper} {rest : List Oper} {o : Oper} {a : Act} {Q : Exit → Act → World → Prop} (hgd : o.guard = none) (s x : Operand)
    (ho : o.op = .call { callee := .builtin .append, args := #[s, x], argTypes := #[40, 40] })
    {B : Nat} {v : Value} {vs : List VerR} (r : VerR) (hs : a.eval s = v) (R : VRow w B 44 v vs) (b c : Nat) (hx : a.eval x = .slice (some ⟨b, 0, none⟩) 1 c)
    (Bk : Blk w b 44 r.cells.toArray) (hv : vs.length ≤ 100000) (hB : B ≤ w.heap.size)
    (h : ∀ v' w', VRow w' B 44 v' (vs ++ [r]) → w.grownBy w' v.ownBlock → wpList Tryd.prog ops Q rest (a.put o.dst v') w') : wpList Tryd.prog ops Q (o :: rest) a w :=
  wpList_append_vers w hgd s x ho hs R b 0 1 c hx rfl (fun j hj k hk => by
    obtain rfl : j = 0 := by omega
    have := Bk.cell k
    rw [show 0 + 0 * 8 + k = k from by omega]
    simpa using this) hv (by decide) hB h
/-- A row of versions of the call's own, as versions that came in. -/
theorem vrow_in {w : World} {B : Nat} {e : TypeId} {v : Value} {vs : List VerR} {r : VerR} (h : VRow w B e v (vs ++ [r])) (he : ∀ j, j < vs.length → (vs.getD j VerR.zero).in_ w) (hr : r.in_ w) :
    ∃ A c, v = .slice A (vs.length + 1) c ∧ VersIn w A (vs.length + 1) (vs ++ [r]) := by
  have hlen : (vs ++ [r]).length = vs.length + 1 := by simp
  obtain ⟨A, c, hv, hI⟩ := VRow.in_ h (fun j hj => by
    rw [hlen] at hj
    by_cases hlt : j < vs.length
    · have e1 : (vs ++ [r]).getD j VerR.zero = vs.getD j VerR.zero := by
        rw [List.getD_eq_getElem?_getD, List.getD_eq_getElem?_getD, List.getElem?_append_left hlt]
      rw [e1]
      exact he j hlt
    · obtain rfl : j = vs.length := by omega
      have e1 : (vs ++ [r]).getD vs.length VerR.zero = r := by
        rw [List.getD_eq_getElem?_getD, List.getElem?_append_right (Nat.le_refl _), Nat.sub_self]
        rfl
      rw [e1]
      exact hr)
  rw [hlen] at hv hI
  exact ⟨A, c, hv, hI⟩
/-- No vector. -/
theorem ints_nil (w : World) : IntsIn w none 0 [] := ⟨rfl, by decide, fun h => absurd h (by decide), fun z hz => by cases hz⟩
end Go.Proofs.YthacdegaeokgnaaDoor

namespace Go.Proofs.YthacdegaeokgnaaDoor
open Go.RowKit Go.WideShapes Go.ChangeShapes Go.Deep

theorem array4 {α : Type} {a : Array α} (h : a.size = 4) : ∃ x0 x1 x2 x3, a = #[x0, x1, x2, x3] := by
  obtain ⟨l⟩ := a
  match l, h with
  | [x0, x1, x2, x3], _ => exact ⟨x0, x1, x2, x3, rfl⟩
section
variable {H : Type} {enc : TypeId × Value → H} {P : Program} {w : World} {t : TypeId} {d : DataW H} {p : List MemPlace} {v : Value} {g0 g1 g2 g3 : Field}
/-- An act that came in. -/
theorem act_view {r : Reach} {b0 : Nat} (ht : P.underlying t = some (.struct #[g0, g1, g2, g3])) (hct : P.cellsOf t = 4)
    (offs : [g0.offset, g1.offset, g2.offset, g3.offset] = [0, 1, 2, 3]) (cells : [g0.type, g1.type, g2.type, g3.type].map P.cellsOf = [1, 1, 1, 1])
    (k0 : P.underlying g0.type = some (.int .i64)) (k1 : P.underlying g1.type = some (.float .f64)) (k2 : P.underlying g2.type = some (.int .i64)) (k3 : P.underlying g3.type = some .string)
    (hval : Value.okWide P w r b0 t v) (h : DataW.Trod enc P w 0 (fun _ => true) true t v d p) :
    ∃ kd nu it tx, v = actV kd nu it tx ∧ d = .agg [.lit (.int .i64 kd), .lit (.float .f64 nu), .lit (.int .i64 it), .lit (.string tx.data.toList)] ∧ p = [] ∧ ActIn kd nu it tx := by
  simp only [List.cons.injEq, and_true, List.map_cons, List.map_nil] at offs cells
  obtain ⟨q0, q1, q2, q3⟩ := offs
  obtain ⟨d0, d1, d2, d3⟩ := cells
  obtain ⟨cs, rfl, hsz⟩ := okWide_struct ht hval
  obtain ⟨a0, a1, a2, a3, rfl⟩ := array4 (hsz.trans hct)
  obtain ⟨fuel, hf⟩ := h
  obtain ⟨ys, m, _, hx, _, hlen, hg⟩ := DataW.trod_struct ht hf
  match ys, hlen, hx, hg with
  | [z0, z1, z2, z3], _, hx, hg =>
    have t0 := hg 0 g0 rfl
    have t1 := hg 1 g1 rfl
    have t2 := hg 2 g2 rfl
    have t3 := hg 3 g3 rfl
    simp [Value.cells, q0, q1, q2, q3, d0, d1, d2, d3] at t0 t1 t2 t3
    obtain ⟨kd, r0, s0, v0⟩ := DataW.trod_int k0 t0
    obtain ⟨nu, r1, s1, v1⟩ := trod_float_ k1 t1
    obtain ⟨it, r2, s2, v2⟩ := DataW.trod_int k2 t2
    obtain ⟨tx, r3, s3, v3⟩ := DataW.trod_string k3 t3
    simp at r0 r1 r2 r3
    subst r0 r1 r2 r3 s0 s1 s2 s3
    unfold maxLen at v3
    obtain ⟨rfl, rfl⟩ := Prod.mk.inj hx
    exact ⟨kd, nu, it, tx, rfl, rfl, rfl, by simpa [Lit.wf] using v1, v0, v2, by omega⟩
/-- A value that came in. -/
theorem val_view {r : Reach} {b0 : Nat} (ht : P.underlying t = some (.struct #[g0, g1, g2, g3])) (hct : P.cellsOf t = 4)
    (offs : [g0.offset, g1.offset, g2.offset, g3.offset] = [0, 1, 2, 3]) (cells : [g0.type, g1.type, g2.type, g3.type].map P.cellsOf = [1, 1, 1, 1])
    (k0 : P.underlying g0.type = some .bool) (k1 : P.underlying g1.type = some (.float .f64)) (k2 : P.underlying g2.type = some (.int .i64)) (k3 : P.underlying g3.type = some .string)
    (hval : Value.okWide P w r b0 t v) (h : DataW.Trod enc P w 0 (fun _ => true) true t v d p) :
    ∃ th nu it tx, v = valV th nu it tx ∧ d = .agg [.lit (.bool th), .lit (.float .f64 nu), .lit (.int .i64 it), .lit (.string tx.data.toList)] ∧ p = [] ∧ ValIn nu it tx := by
  simp only [List.cons.injEq, and_true, List.map_cons, List.map_nil] at offs cells
  obtain ⟨q0, q1, q2, q3⟩ := offs
  obtain ⟨d0, d1, d2, d3⟩ := cells
  obtain ⟨cs, rfl, hsz⟩ := okWide_struct ht hval
  obtain ⟨a0, a1, a2, a3, rfl⟩ := array4 (hsz.trans hct)
  obtain ⟨fuel, hf⟩ := h
  obtain ⟨ys, m, _, hx, _, hlen, hg⟩ := DataW.trod_struct ht hf
  match ys, hlen, hx, hg with
  | [z0, z1, z2, z3], _, hx, hg =>
    have t0 := hg 0 g0 rfl
    have t1 := hg 1 g1 rfl
    have t2 := hg 2 g2 rfl
    have t3 := hg 3 g3 rfl
    simp [Value.cells, q0, q1, q2, q3, d0, d1, d2, d3] at t0 t1 t2 t3
    obtain ⟨th, r0, s0⟩ := DataW.trod_bool k0 t0
    obtain ⟨nu, r1, s1, v1⟩ := trod_float_ k1 t1
    obtain ⟨it, r2, s2, v2⟩ := DataW.trod_int k2 t2
    obtain ⟨tx, r3, s3, v3⟩ := DataW.trod_string k3 t3
    simp at r0 r1 r2 r3
    subst r0 r1 r2 r3 s0 s1 s2 s3
    unfold maxLen at v3
    obtain ⟨rfl, rfl⟩ := Prod.mk.inj hx
    exact ⟨th, nu, it, tx, rfl, rfl, rfl, by simpa [Lit.wf] using v1, v2, by omega⟩
/-- How long its text is at most. -/
theorem text_size {ts : List TypeId} {ds : List (DataW H)} (h : (DataW.weightsEach P ts ds).all (· ≤ reachBytes) = true) {j : Nat} {x0 x1 x2 : DataW H} {b : ByteArray} (hj : ts[j]? = some t) (hd : ds[j]? = some (.agg [x0, x1, x2, .lit (.string b.data.toList)]))
    (ht : P.underlying t = some (.struct #[g0, g1, g2, g3])) : b.size ≤ 140737488351232 := by
  have hm := List.all_eq_true.1 h _ (DataW.weights_mem_each hj hd b.data.toList.length (by simp [DataW.weights, ht, DataW.weightsEach]))
  have : b.data.toList.length ≤ reachBytes := by simpa using hm
  rw [show (b.data.toList.length : Nat) = b.size from rfl] at this
  unfold reachBytes at this
  omega
end
end Go.Proofs.YthacdegaeokgnaaDoor

namespace Go.Proofs.YthacdegaeokgnaaDoor
open Go.RowKit Go.WideShapes Go.ChangeShapes
section
variable {H : Type} {enc : TypeId × Value → H} {P : Program}
theorem post_of_below {f : Func} {s : ChangeSpec} {apart fresh handsOn again : Bool} {W W' : World} {args : Array Value} {v : Value} {ds gs : List (DataW H)} {before pa pv : List MemPlace}
    (hW : DataW.Whole enc P f.params.toList s.vars apart W args.toList ds gs before)
    (hres : ∀ (b : Nat) (sp : Nat → Bool) (hd : Bool), DataW.TrodAll enc P W' b sp hd f.resultTypes.toList (v.resultList f.resultTypes.size) (s.fn H (ds ++ gs)).results [])
    (hargs : ∀ sp : Nat → Bool, (∀ p ∈ before, sp p.block = true) → DataW.TrodAll enc P W' 0 sp true f.params.toList args.toList (s.fn H (ds ++ gs)).args pa)
    (hvars : ∀ sp : Nat → Bool, (∀ p ∈ before, sp p.block = true) → DataW.TrodVars enc P W' sp s.vars (s.fn H (ds ++ gs)).vars pv)
    (hps : before = pa ++ pv) (hb : Below W.heap.size W W')
    (hok : ∀ (j : Nat) (t : TypeId) (r : Value), f.resultTypes[j]? = some t → (v.resultList f.resultTypes.size)[j]? = some r → Value.okWide P W' .any 0 t r) :
    s.post enc P f apart fresh handsOn again W args v W' := by
  have hlt : ∀ p ∈ before, p.block < W.heap.size := fun p hp => hW.lt p hp
  have hold : ∀ p ∈ before, (fun b => decide (b < W.heap.size)) p.block = true := fun p hp => by simpa using hlt p hp
  refine ⟨ds, gs, before, [], pa, pv, hW, hres _ _ _, hargs _ hold, hvars _ hold, World.keptBut_mono (fun p hp => ⟨hp, ?_⟩) (hb.frame (· ∈ before)), fun _ => ?_⟩
  · rw [hps, List.mem_append] at hp
    exact Or.inr hp
  · obtain ⟨_, _, _, _, _, hz, hn⟩ := hW
    refine ⟨hok, _, _, ([] ++ pa) ++ pv, ⟨[] ++ pa, pv, trodAll_append (hargs _ (fun _ _ => rfl)) (hres _ _ _), hvars _ (fun _ _ => rfl), rfl, ?_, ?_⟩, ?_⟩
    · intro b off hp
      have hin : MemPlace.cell b off ∈ before := by rw [hps]; simpa using hp
      rw [hb.frozen (hlt _ hin)]
      exact hz b off hin
    · intro ha
      have := hn ha
      rw [hps] at this
      simpa using this
    · intro p hp _
      rw [hps]
      simpa using hp
end
end Go.Proofs.YthacdegaeokgnaaDoor

namespace Go.Proofs.YthacdegaeokgnaaDoor
open Go.RowKit

/-- What stands while two acts become one: both, the result's cells, and all that was there. -/
structure Both6 (w : World) (kd : Int) (nu : Nat) (it : Int) (tx : ByteArray) (kd' : Int) (nu' : Nat) (it' : Int) (tx' : ByteArray) (W : World) : Prop where
  a : Blk W w.heap.size 24 (actC kd nu it tx)
  b : Blk W (w.heap.size + 1) 24 (actC kd' nu' it' tx')
  r : Blk W (w.heap.size + 1 + 1) 24 (actC 0 0 0 ⟨#[]⟩)
  below : Below w.heap.size w W
section
variable {w W W' : World} {kd : Int} {nu : Nat} {it : Int} {tx : ByteArray} {kd' : Int} {nu' : Nat} {it' : Int} {tx' : ByteArray}
theorem Both6.on (h : Both6 w kd nu it tx kd' nu' it' tx' W) (hb : Below W.heap.size W W') : Both6 w kd nu it tx kd' nu' it' tx' W' := ⟨h.a.below hb h.a.lt, h.b.below hb h.b.lt, h.r.below hb h.r.lt, h.below.trans (hb.mono h.below.size)⟩
theorem Both6.alloc (h : Both6 w kd nu it tx kd' nu' it' tx' W) (o : Obj) : Both6 w kd nu it tx kd' nu' it' tx' (W.alloc o) := h.on ((Below.refl _ W).alloc (Nat.le_refl _) _)
theorem Both6.drew (h : Both6 w kd nu it tx kd' nu' it' tx' W) : Both6 w kd nu it tx kd' nu' it' tx' W.drew := ⟨h.a, h.b, h.r, h.below.drew⟩
end

theorem rboth_end {w : World} {p : Nat} {t : Array Value} {R : Ending → World → Prop} {kd : Int} {nu : Nat} {it : Int} {tx : ByteArray} (B : Blk w p 24 (actC kd nu it tx)) (h6 : t[6]?.getD undef = .pointer (some ⟨p, 0, none⟩)) (h : R (.returned (actV kd nu it tx)) w) :
    bodyPost Tryd.prog Tryd.f25 R .ret { tmps := t, defers := [] } w := by
  obtain ⟨c0, c1, c2, c3⟩ := act_cells B
  refine bodyPost_ret (v := actV kd nu it tx) ?_ rfl h
  simp [results, Tryd.results25, go_sem, c0, c1, c2, c3, h6, actV]
theorem blkv_below {W w3 : World} (g : Below (W.alloc (.cells #[.bool false, .float .f64 0, .int .i64 0, .string ⟨#[]⟩] 26)).heap.size (W.alloc (.cells #[.bool false, .float .f64 0, .int .i64 0, .string ⟨#[]⟩] 26)) w3) : Blk w3 W.heap.size 26 (valC false 0 0 ⟨#[]⟩) := (Blk.new W _ _).below g (by simp)
theorem blkvd_below {W w3 : World} (g : Below (W.alloc (.cells #[.bool false, .float .f64 0, .int .i64 0, .string ⟨#[]⟩] 26)).drew.heap.size (W.alloc (.cells #[.bool false, .float .f64 0, .int .i64 0, .string ⟨#[]⟩] 26)).drew w3) : Blk w3 W.heap.size 26 (valC false 0 0 ⟨#[]⟩) := (Blk.new W _ _).drew.below g (by simp [World.drew])
theorem both_done {key : List UInt8} {a b : A6} (ha : fitsA key a = true) (hb : fitsA key b = true) (h1 : key.headD 0 ≠ 114) (h2 : key.headD 0 ≠ 116) : bothA key a b = ⟨a.kd, (doneA (doneA V6.zero a) b).r, (doneA (doneA V6.zero a) b).it, []⟩ := by
  rw [both_at ha hb]
  rcases fits_cases ha with ⟨hc, _⟩ | ⟨hc, _⟩ | ⟨hc, k1, k2, k3⟩ | ⟨hc, k1, k2, k3⟩ | ⟨hc, k1, k2, k3⟩
  · exact absurd hc h1
  · exact absurd hc h2
  all_goals
    rcases fits_cases hb with ⟨h', _⟩ | ⟨h', _⟩ | ⟨h', l1, l2, l3⟩ | ⟨h', l1, l2, l3⟩ | ⟨h', l1, l2, l3⟩
    all_goals first
      | exact absurd h' h1
      | exact absurd h' h2
      | (rw [hc] at h'; exact absurd h' (by decide))
      | (rw [hc]; unfold doneA V6.zero; simp [k1, l1])

theorem Both6.put4 {w W : World} {kd : Int} {nu : Nat} {it : Int} {tx : ByteArray} {kd' : Int} {nu' : Nat} {it' : Int} {tx' : ByteArray} {p : Nat} {t : TypeId} {c : Array Value} (h : Both6 w kd nu it tx kd' nu' it' tx' W) (_ : Blk W p t c) (hp : w.heap.size + 1 + 1 < p) (v0 v1 v2 v3 : Value) :
    Both6 w kd nu it tx kd' nu' it' tx' ((((W.setCell ⟨p, 0, none⟩ v0).setCell ⟨p, 1, none⟩ v1).setCell ⟨p, 2, none⟩ v2).setCell ⟨p, 3, none⟩ v3) :=
  ⟨blk_far4 h.a (by omega) _ _ _ _, blk_far4 h.b (by omega) _ _ _ _, blk_far4 h.r (by omega) _ _ _ _, below_set4 h.below (by omega) _ _ _ _⟩

set_option maxRecDepth 100000 in
set_option maxHeartbeats 8000000 in
theorem rboth_any (key : ByteArray) (hk : key.size ≤ 9223372036854775807) (kd : Int) (nu : Nat) (it : Int) (tx : ByteArray) (I : ActIn kd nu it tx) (kd' : Int) (nu' : Nat) (it' : Int) (tx' : ByteArray) (I' : ActIn kd' nu' it' tx') (w : World) :
    Calls Tryd.prog 25 #[.string key, actV kd nu it tx, actV kd' nu' it' tx'] w fun e w' => RetA e (bothA key.data.toList (a6 kd nu it tx) (a6 kd' nu' it' tx')) ∧ Below w.heap.size w w' := by
  have R1 := fun W => Lib.hid (rfits_any key hk kd nu it tx I W)
  have R2 := fun W => Lib.hid (rfits_any key hk kd' nu' it' tx' I' W)
  have A1 := fun W => Lib.hid (rafter_any key hk false 0 0 ⟨#[]⟩ ValIn.zero kd nu it tx I W)
  have A2 := fun th vn vi vt IV W => Lib.hid (rafter_any key hk th vn vi vt IV kd' nu' it' tx' I' W)
  simp only [actV, valV] at R1 R2 A1 A2
  have hz : v6 false 0 0 ⟨#[]⟩ = V6.zero := by unfold v6 V6.zero; simp [rank_zero]
  rw [hz] at A1
  unfold actV
  have S0 : Both6 w kd nu it tx kd' nu' it' tx' (((w.alloc (.cells #[.int .i64 kd, .float .f64 nu, .int .i64 it, .string tx] 24)).alloc (.cells #[.int .i64 kd', .float .f64 nu', .int .i64 it', .string tx'] 24)).alloc (.cells #[.int .i64 0, .float .f64 0, .int .i64 0, .string ⟨#[]⟩] 24)) := ⟨((Blk.new w _ _).alloc _).alloc _, (Blk.new' (by simp) _ _).alloc _, Blk.new' (by simp) _ _, (((Below.refl _ w).alloc (Nat.le_refl _) _).alloc (by simp) _).alloc (by simp; omega) _⟩
  have hst := run_sto_f64
  obtain ⟨T, HT⟩ : ∃ T, Hid (bothA key.data.toList (a6 kd nu it tx) (a6 kd' nu' it' tx') = T) := ⟨_, rfl⟩
  rw [HT.out]
  obtain ⟨q1, h1⟩ : ∃ q, fitsA key.data.toList (a6 kd nu it tx) = q := ⟨_, rfl⟩
  obtain ⟨q2, h2⟩ : ∃ q, fitsA key.data.toList (a6 kd' nu' it' tx') = q := ⟨_, rfl⟩
  rw [h1] at R1
  rw [h2] at R2
  have I := Lib.hid I
  have I' := Lib.hid I'
  go_enter Tryd.func25, Tryd.ntmps25
  go_wp2_with fail
  generalize ((w.alloc (.cells #[.int .i64 kd, .float .f64 nu, .int .i64 it, .string tx] 24)).alloc (.cells #[.int .i64 kd', .float .f64 nu', .int .i64 it', .string tx'] 24)).alloc (.cells #[.int .i64 0, .float .f64 0, .int .i64 0, .string ⟨#[]⟩] 24) = w0 at S0 ⊢
  refine (R1 _).out.mono ?_
  rintro e w1 ⟨rfl, g1⟩
  have S1 := S0.on g1
  clear S0 g1
  obtain ⟨a0, a1, a2, a3⟩ := act_cells S1.a
  obtain ⟨b0, b1, b2, b3⟩ := act_cells S1.b
  have z0 := S1.r.frozen 0
  have z1 := S1.r.frozen 1
  have z2 := S1.r.frozen 2
  have z3 := S1.r.frozen 3
  obtain ⟨r0, r1, r2, r3⟩ := act_cells S1.r
  cases q1
  · have E : Hid (T = a6 kd' nu' it' tx') := by
      have := HT.out
      unfold bothA at this
      rw [h1] at this
      exact this.symm
    have S1 := Lib.hid S1
    clear h1 h2 HT
    go_wp2_with fail
    all_goals
      try simp only [Exit.inBlock, Exit.then]
      exact rboth_end (blk_set4 S1.out.r (.int .i64 kd') (.float .f64 nu') (.int .i64 it') (.string tx')) rfl ⟨⟨kd', nu', it', tx', rfl, I'.out, E.out.symm⟩, below_set4 S1.out.below (by omega) _ _ _ _⟩
  · have S1 := Lib.hid S1
    have H1 := Lib.hid h1
    have H2 := Lib.hid h2
    clear h1 h2
    go_wp2_with fail
    clear a0 a1 a2 a3 b0 b1 b2 b3 z0 z1 z2 z3 r0 r1 r2 r3
    refine (R2 _).out.mono ?_
    rintro e w2 ⟨rfl, g2⟩
    have S2 := S1.out.on g2
    clear S1 g2
    obtain ⟨a0, a1, a2, a3⟩ := act_cells S2.a
    obtain ⟨b0, b1, b2, b3⟩ := act_cells S2.b
    have z0 := S2.r.frozen 0
    have z1 := S2.r.frozen 1
    have z2 := S2.r.frozen 2
    have z3 := S2.r.frozen 3
    obtain ⟨r0, r1, r2, r3⟩ := act_cells S2.r
    cases q2
    · have E : Hid (T = a6 kd' nu' it' tx') := by
        have := HT.out
        unfold bothA at this
        rw [H1.out, H2.out] at this
        exact this.symm
      have S2 := Lib.hid S2
      clear H1 H2 HT
      go_wp2_with fail
      all_goals
        try simp only [Exit.inBlock, Exit.then]
        exact rboth_end (blk_set4 S2.out.r (.int .i64 kd') (.float .f64 nu') (.int .i64 it') (.string tx')) rfl ⟨⟨kd', nu', it', tx', rfl, I'.out, E.out.symm⟩, below_set4 S2.out.below (by omega) _ _ _ _⟩
    · obtain ⟨hlt, c, hc, hd, g5⟩ := key_first (fitsA_key H1.out).1
      have HB := Lib.hid (both_at H1.out H2.out)
      have HD := fun x y => Lib.hid (both_done H1.out H2.out x y)
      rw [hd] at HB HD
      rw [HT.out] at HB HD
      have q1 : ((c.toNat : Int) == 114) = decide (c = 114) := byte_eq c 114
      have q2 : ((c.toNat : Int) == 116) = decide (c = 116) := byte_eq c 116
      clear hd g5 HT
      have S2 := Lib.hid S2
      by_cases g1 : c = 114
      · rw [decide_eq_true g1] at q1
        have E : Hid (T = a6 kd' nu' it' tx') := by rw [HB.out, g1]; rfl
        clear g1 q2 HB HD H1 H2
        go_wp2_with fail
        all_goals
          try simp only [Exit.inBlock, Exit.then]
          exact rboth_end (blk_set4 S2.out.r (.int .i64 kd') (.float .f64 nu') (.int .i64 it') (.string tx')) rfl ⟨⟨kd', nu', it', tx', rfl, I'.out, E.out.symm⟩, below_set4 S2.out.below (by omega) _ _ _ _⟩
      · rw [decide_eq_false g1] at q1
        by_cases g2 : c = 116
        · rw [decide_eq_true g2] at q2
          have E : Hid (T = a6 kd' nu' it' tx') := by rw [HB.out, g2]; rfl
          clear g1 g2 HB HD H1 H2
          go_wp2_with fail
          all_goals
            try simp only [Exit.inBlock, Exit.then]
            exact rboth_end (blk_set4 S2.out.r (.int .i64 kd') (.float .f64 nu') (.int .i64 it') (.string tx')) rfl ⟨⟨kd', nu', it', tx', rfl, I'.out, E.out.symm⟩, below_set4 S2.out.below (by omega) _ _ _ _⟩
        · rw [decide_eq_false g2] at q2
          have E := HD g1 g2
          have e1 : afterA key.data.toList V6.zero (a6 kd nu it tx) = doneA V6.zero (a6 kd nu it tx) := by unfold afterA; rw [H1.out, if_pos rfl]
          have e2 : ∀ v, afterA key.data.toList v (a6 kd' nu' it' tx') = doneA v (a6 kd' nu' it' tx') := fun v => by unfold afterA; rw [H2.out, if_pos rfl]
          rw [e1] at A1
          simp only [e2] at A2
          clear g1 g2 HB HD H1 H2 e1 e2 a0 a1 a2 a3 b0 b1 b2 b3 z0 z1 z2 z3 r0 r1 r2 r3
          obtain ⟨a0, a1, a2, a3⟩ := act_cells S2.out.a
          obtain ⟨b0, b1, b2, b3⟩ := act_cells S2.out.b
          have l2 := S2.out.b.lt
          have l1 := S2.out.a.lt
          go_wp2_with fail
          go_region_with (first
            | (go_at_call_of 23 (Value.string tx); refine (A1 _).out.mono ?_; rintro e w3 ⟨⟨th, vn, vi, vt, rfl, hv, hx⟩, g3⟩; have S3 := Both6.on (by first | exact S2.out | exact S2.out.drew | exact S2.out.alloc _ | exact S2.out.drew.alloc _ | exact (S2.out.alloc _).drew) g3; (try (first | with_reducible (have BV := blkv_below g3) | with_reducible (have BV := blkvd_below g3))); have l3 := S3.b.lt; obtain ⟨b0, b1, b2, b3⟩ := act_cells S3.b)
            | (go_at_call_of 23 (Value.string tx'); refine (A2 th vn vi vt hv _).out.mono ?_; rintro e w4 ⟨⟨th4, vn4, vi4, vt4, rfl, hv4, hx4⟩, g4⟩; have S4 := Both6.on (by first | exact S3 | exact S3.drew | exact S3.alloc _) g4; have S4z := S4.alloc (.cells #[.bool false, .float .f64 0, .int .i64 0, .string ⟨#[]⟩] 26); (first | have BZ := BV.below g4 BV.lt | with_reducible (have BZ := blkv_below g4) | have BZ : Blk (w4.alloc (.cells #[.bool false, .float .f64 0, .int .i64 0, .string ⟨#[]⟩] 26)) w4.heap.size 26 (valC false 0 0 ⟨#[]⟩) := Blk.new w4 _ _); have y0 := BZ.frozen 0; have y1 := BZ.frozen 1; have y2 := BZ.frozen 2; have y3 := BZ.frozen 3; obtain ⟨d0, d1, d2, d3⟩ := val_cells BZ; simp only [valV]))
          all_goals
            have r2 := S2.out.r.lt
            have r3 := S3.r.lt
            have r4 := S4.r.lt
            simp only [Exit.then]
            first
              | (have S5 := S4.put4 BZ (by omega) (.bool th4) (.float .f64 vn4) (.int .i64 vi4) (.string vt4)
                 have B5 := blk_set4 BZ (.bool th4) (.float .f64 vn4) (.int .i64 vi4) (.string vt4)
                 generalize World.setCell (World.setCell (World.setCell (World.setCell _ _ _) _ _) _ _) _ _ = wz at S5 B5 ⊢)
              | (have S5 := S4.alloc (.cells #[.bool th4, .float .f64 vn4, .int .i64 vi4, .string vt4] 26)
                 have B5 : Blk (w4.alloc (.cells #[.bool th4, .float .f64 vn4, .int .i64 vi4, .string vt4] 26)) w4.heap.size 26 (valC th4 vn4 vi4 vt4) := Blk.new w4 _ _
                 generalize w4.alloc (.cells #[.bool th4, .float .f64 vn4, .int .i64 vi4, .string vt4] 26) = wz at S5 B5 ⊢)
            clear a0 a1 a2 a3 b0 b1 b2 b3 d0 d1 d2 d3 y0 y1 y2 y3
            have E5 : Hid (T = a6 kd vn4 vi4 ⟨#[]⟩) := by rw [E.out, ← hx, ← hx4]; rfl
            have I5 : Hid (ActIn kd vn4 vi4 ⟨#[]⟩) := ⟨hv4.nu, I.out.kd, hv4.it, by decide⟩
            obtain ⟨a0, a1, a2, a3⟩ := act_cells S5.a
            obtain ⟨d0, d1, d2, d3⟩ := val_cells B5
            have z0 := S5.r.frozen 0
            have z1 := S5.r.frozen 1
            have z2 := S5.r.frozen 2
            have z3 := S5.r.frozen 3
            obtain ⟨r0, r1, r2, r3⟩ := act_cells S5.r
            have S5 := Lib.hid S5
            clear B5 BZ S4z S4 S3 S2 hv hx hv4 hx4 A1 A2 E I I' l1 l2 l3 g3 g4
            go_wp2_with fail
            try simp only [Exit.inBlock, Exit.then]
            exact rboth_end (blk_set4 S5.out.r (.int .i64 kd) (.float .f64 vn4) (.int .i64 vi4) (.string ⟨#[]⟩)) rfl ⟨⟨kd, vn4, vi4, ⟨#[]⟩, rfl, I5.out, E5.out.symm⟩, below_set4 S5.out.below (by omega) _ _ _ _⟩
end Go.Proofs.YthacdegaeokgnaaDoor
