/-
  Several texts in one: The landed package op: what an act does to a value, two acts as one, a value's text.
  What the landed package op answers, call by call.
  Chapter 6's first call.
  Plain lemmas on lists of versions (chapter 6): the one with the greatest stamp; what a key has behind all; the order in which they stand. No program is named.
  The document's own answer to chapter 6: a version's time, whatever it is; the order of vectors; which version counts.
  Chapter 6: of two versions, which one counts (the document's own answer).
  Walks over package real, part 3: Scale.
  Walks over package stamp: New, Tick, Now, Next, Seen, Last, Drift, Greater.
  The landed package op: a version's time, the order of vectors, which version counts.
  Slices of versions ([]api.Version) that came in: what a walk asks of them, out of how they read. No program is named.
  The document's own answer to chapter 6: what a key has behind all versions of a list.
  The document's own answer to chapter 6: what a register has behind all versions of a list.
-/
import Derived.Test.YthacdegaeokgnaaDoorM3
import Derived.Test.YthacdegaeokgnaaDoorM4
import Derived.Test.YthacdegaeokgnaaDoorM6
import Derived.Test.YthacdegaeokgnaaDoorM2
import Derived.Test.YthacdegaeokgnaaDoorM1
import Derived.Test.YthacdegaeokgnaaDoorM5
import Derived.LoopTactic
import Derived.BigQuiet
import Derived.StillTailTactics
import Derived.Deep.RegionWith
namespace Go.Proofs.YthacdegaeokgnaaDoor
open Go.RowKit

/-- An act onto numbers that a key of a kind has. -/
def ontoA (c : UInt8) (r : Nat) (z : Int) (a : A6) : A6 :=
  if c = 99 then ⟨a.kd, a.r, wrap64 (a.it + z), a.tx⟩ else if c = 120 then ⟨a.kd, max r a.r, a.it, a.tx⟩ else if c = 110 then ⟨a.kd, min r a.r, a.it, a.tx⟩ else a
theorem onto_done {key : List UInt8} {a : A6} (h : fitsA key a = true) (v : V6) (hv : v.th = true) (h4 : a.kd ≠ 4) :
    doneA v a = ⟨true, (ontoA (kindL key) v.r v.it a).r, (ontoA (kindL key) v.r v.it a).it, (ontoA (kindL key) v.r v.it a).tx⟩ := by
  rw [kindL_of h]
  have F := fits_cases h
  generalize key.headD 0 = d at F ⊢
  unfold ontoA doneA
  rcases F with ⟨rfl, h | h⟩ | ⟨rfl, h | h⟩ | ⟨rfl, h⟩ | ⟨rfl, h⟩ | ⟨rfl, h⟩
  · simp [h.1, h.2.1]
  · exact absurd h.1 h4
  · simp [h.1, h.2.1]
  · exact absurd h.1 h4
  · simp [h.1, h.2.1, h.2.2, hv, Int.add_comm]
  · simp [h.1, h.2.1, h.2.2, hv]
  · simp [h.1, h.2.1, h.2.2, hv]
theorem first_done {key : List UInt8} {a : A6} (h : fitsA key a = true) (v : V6) (hv : v.th = false) (h4 : a.kd ≠ 4) : doneA v a = ⟨true, a.r, a.it, a.tx⟩ := by
  unfold doneA
  rcases fits_cases h with ⟨hc, h | h⟩ | ⟨hc, h | h⟩ | ⟨hc, h⟩ | ⟨hc, h⟩ | ⟨hc, h⟩
  · simp [h.1, h.2.1]
  · exact absurd h.1 h4
  · simp [h.1, h.2.1]
  · exact absurd h.1 h4
  · simp [h.1, h.2.1, h.2.2, hv]
  · simp [h.1, h.2.1, h.2.2, hv]
  · simp [h.1, h.2.1, h.2.2, hv]
theorem onto_both {key : List UInt8} {a b : A6} (ha : fitsA key a = true) (hb : fitsA key b = true) : bothA key a b = ontoA (kindL key) a.r a.it b := by
  rw [both_at ha hb, kindL_of ha]
  have F := fits_cases hb
  generalize key.headD 0 = d at F ⊢
  obtain ⟨k, r, i, t⟩ := b
  simp only at F
  unfold ontoA
  rcases F with ⟨rfl, _⟩ | ⟨rfl, _⟩ | ⟨rfl, h1, h2, h3⟩ | ⟨rfl, h1, h2, h3⟩ | ⟨rfl, h1, h2, h3⟩
  · simp
  · simp
  · subst h1 h2 h3
    simp [Int.add_comm]
  · subst h1 h2 h3
    simp
  · subst h1 h2 h3
    simp

theorem oonto_end {w : World} {p : Nat} {t : Array Value} {R : Ending → World → Prop} {kd : Int} {nu : Nat} {it : Int} {tx : ByteArray} (B : Blk w p 24 (actC kd nu it tx)) (h8 : t[8]?.getD undef = .pointer (some ⟨p, 0, none⟩)) (h : R (.returned (actV kd nu it tx)) w) :
    bodyPost Tryd.prog Tryd.f49 R .ret { tmps := t, defers := [] } w := by
  obtain ⟨c0, c1, c2, c3⟩ := act_cells B
  refine bodyPost_ret (v := actV kd nu it tx) ?_ rfl h
  simp [results, Tryd.results49, go_sem, c0, c1, c2, c3, h8, actV]

set_option maxRecDepth 100000 in
set_option maxHeartbeats 4000000 in
theorem lonto_any (c : UInt8) (vn : Nat) (vi : Int) (hvn : vn < 18446744073709551616) (kd : Int) (nu : Nat) (it : Int) (tx : ByteArray) (I : ActIn kd nu it tx) (w : World) :
    Calls Tryd.prog 49 #[.int .u8 (c.toNat : Int), .float .f64 vn, .int .i64 vi, actV kd nu it tx] w fun e w' => RetA e (ontoA c (rankN vn) vi (a6 kd nu it tx)) ∧ Below w.heap.size w w' := by
  have CM := fun W => Lib.hid (fmax_any vn nu hvn I.nu W)
  have CN := fun W => Lib.hid (fmin_any vn nu hvn I.nu W)
  have hm := maxN_lt hvn I.nu
  have hn := minN_lt hvn I.nu
  have I := Lib.hid I
  unfold actV
  have hb : Hid (Below w.heap.size w ((w.alloc (.cells #[.int .i64 kd, .float .f64 nu, .int .i64 it, .string tx] 24)).alloc (.cells #[.int .i64 0, .float .f64 0, .int .i64 0, .string ⟨#[]⟩] 24))) := ((Below.refl _ w).alloc (Nat.le_refl _) _).alloc (by simp) _
  have BA : Hid (Blk ((w.alloc (.cells #[.int .i64 kd, .float .f64 nu, .int .i64 it, .string tx] 24)).alloc (.cells #[.int .i64 0, .float .f64 0, .int .i64 0, .string ⟨#[]⟩] 24)) w.heap.size 24 (actC kd nu it tx)) := (Blk.new w _ _).alloc _
  have BR : Hid (Blk ((w.alloc (.cells #[.int .i64 kd, .float .f64 nu, .int .i64 it, .string tx] 24)).alloc (.cells #[.int .i64 0, .float .f64 0, .int .i64 0, .string ⟨#[]⟩] 24)) (w.heap.size + 1) 24 (actC 0 0 0 ⟨#[]⟩)) := Blk.new' (by simp) _ _
  have hst := run_sto_f64
  have q1 : ((c.toNat : Int) == 99) = decide (c = 99) := byte_eq c 99
  have q2 : ((c.toNat : Int) == 120) = decide (c = 120) := byte_eq c 120
  have q3 : ((c.toNat : Int) == 110) = decide (c = 110) := byte_eq c 110
  obtain ⟨a0, a1, a2, a3⟩ := act_cells BA.out
  have y0 := BA.out.frozen 0
  have y1 := BA.out.frozen 1
  have y2 := BA.out.frozen 2
  have y3 := BA.out.frozen 3
  obtain ⟨r0, r1, r2, r3⟩ := act_cells BR.out
  have z0 := BR.out.frozen 0
  have z1 := BR.out.frozen 1
  have z2 := BR.out.frozen 2
  have z3 := BR.out.frozen 3
  by_cases g1 : c = 99
  · rw [decide_eq_true g1] at q1
    have E : Hid (ontoA c (rankN vn) vi (a6 kd nu it tx) = a6 kd nu (wrap64 (it + vi)) tx) := by unfold Hid ontoA; rw [if_pos g1]; rfl
    rw [E.out]
    clear q2 q3 g1 E CM CN hm hn
    go_enter Tryd.func49, Tryd.ntmps49
    go_wp2_with fail
    try simp only [Exit.inBlock, Exit.then]
    exact oonto_end (kd := kd) (nu := nu) (it := (wrap64 (it + vi))) (tx := tx) (Blk.new' (by simp) _ _) rfl ⟨⟨kd, nu, (wrap64 (it + vi)), tx, rfl, ⟨I.out.nu, I.out.kd, wrap_wf _, I.out.tx⟩, rfl⟩, ((Below.refl _ w).alloc (Nat.le_refl _) _).alloc (by simp) _⟩
  · rw [decide_eq_false g1] at q1
    by_cases g2 : c = 120
    · rw [decide_eq_true g2] at q2
      have E : Hid (ontoA c (rankN vn) vi (a6 kd nu it tx) = a6 kd (maxN vn nu) it tx) := by unfold Hid ontoA a6; rw [if_neg g1, if_pos g2, maxN_rank]
      rw [E.out]
      clear q3 g1 g2 E CN hn
      go_enter Tryd.func49, Tryd.ntmps49
      go_wp2_with fail
      refine (CM _).out.mono ?_
      rintro e w1 ⟨rfl, rfl⟩
      go_wp2_with fail
      try simp only [Exit.inBlock, Exit.then]
      exact oonto_end (kd := kd) (nu := (maxN vn nu)) (it := it) (tx := tx) (Blk.new' (by simp) _ _) rfl ⟨⟨kd, (maxN vn nu), it, tx, rfl, ⟨hm, I.out.kd, I.out.it, I.out.tx⟩, rfl⟩, ((Below.refl _ w).alloc (Nat.le_refl _) _).alloc (by simp) _⟩
    · rw [decide_eq_false g2] at q2
      by_cases g3 : c = 110
      · rw [decide_eq_true g3] at q3
        have E : Hid (ontoA c (rankN vn) vi (a6 kd nu it tx) = a6 kd (minN vn nu) it tx) := by unfold Hid ontoA a6; rw [if_neg g1, if_neg g2, if_pos g3, minN_rank]
        rw [E.out]
        clear g1 g2 g3 E CM hm
        go_enter Tryd.func49, Tryd.ntmps49
        go_wp2_with fail
        refine (CN _).out.mono ?_
        rintro e w1 ⟨rfl, rfl⟩
        go_wp2_with fail
        try simp only [Exit.inBlock, Exit.then]
        exact oonto_end (kd := kd) (nu := (minN vn nu)) (it := it) (tx := tx) (Blk.new' (by simp) _ _) rfl ⟨⟨kd, (minN vn nu), it, tx, rfl, ⟨hn, I.out.kd, I.out.it, I.out.tx⟩, rfl⟩, ((Below.refl _ w).alloc (Nat.le_refl _) _).alloc (by simp) _⟩
      · rw [decide_eq_false g3] at q3
        have E : Hid (ontoA c (rankN vn) vi (a6 kd nu it tx) = a6 kd nu it tx) := by unfold Hid ontoA a6; rw [if_neg g1, if_neg g2, if_neg g3]
        rw [E.out]
        clear g1 g2 g3 E CM CN hm hn
        go_enter Tryd.func49, Tryd.ntmps49
        go_wp2_with fail
        try simp only [Exit.inBlock, Exit.then]
        exact oonto_end (kd := kd) (nu := nu) (it := it) (tx := tx) (Blk.new' (by simp) _ _) rfl ⟨⟨kd, nu, it, tx, rfl, I.out, rfl⟩, ((Below.refl _ w).alloc (Nat.le_refl _) _).alloc (by simp) _⟩

/-- An act known by its place alone. -/
def SlotAct {T : World → World → Prop} (x : A6) : Slot T := Slot.sort fun v => ∃ kd nu it tx, v = actV kd nu it tx ∧ ActIn kd nu it tx ∧ a6 kd nu it tx = x
/-- What stands while an act is done to a value: both, the result's cells, and all that was there. -/
structure Aft6 (w : World) (th : Bool) (vn : Nat) (vi : Int) (vt : ByteArray) (kd : Int) (nu : Nat) (it : Int) (tx : ByteArray) (W : World) : Prop where
  v : Blk W w.heap.size 26 (valC th vn vi vt)
  a : Blk W (w.heap.size + 1) 24 (actC kd nu it tx)
  r : Blk W (w.heap.size + 1 + 1) 26 (valC false 0 0 ⟨#[]⟩)
  below : Below w.heap.size w W
section
variable {w W W' : World} {th : Bool} {vn : Nat} {vi : Int} {vt : ByteArray} {kd : Int} {nu : Nat} {it : Int} {tx : ByteArray}
theorem Aft6.on (h : Aft6 w th vn vi vt kd nu it tx W) (hb : Below W.heap.size W W') : Aft6 w th vn vi vt kd nu it tx W' := ⟨h.v.below hb h.v.lt, h.a.below hb h.a.lt, h.r.below hb h.r.lt, h.below.trans (hb.mono h.below.size)⟩
theorem Aft6.drew (h : Aft6 w th vn vi vt kd nu it tx W) : Aft6 w th vn vi vt kd nu it tx W.drew := ⟨h.v, h.a, h.r, h.below.drew⟩
theorem Aft6.act (h : Aft6 w th vn vi vt kd nu it tx W) (kd' : Int) (nu' : Nat) (it' : Int) (tx' : ByteArray) :
    Aft6 w th vn vi vt kd' nu' it' tx' ((((W.setCell ⟨w.heap.size + 1, 0, none⟩ (.int .i64 kd')).setCell ⟨w.heap.size + 1, 1, none⟩ (.float .f64 nu')).setCell ⟨w.heap.size + 1, 2, none⟩ (.int .i64 it')).setCell ⟨w.heap.size + 1, 3, none⟩ (.string tx')) :=
  ⟨blk_far4 h.v (by omega) _ _ _ _, blk_set4 h.a _ _ _ _, blk_far4 h.r (by omega) _ _ _ _, below_set4 h.below (Nat.le_succ _) _ _ _ _⟩
end
theorem oafter_end {w : World} {p : Nat} {t : Array Value} {R : Ending → World → Prop} {th : Bool} {nu : Nat} {it : Int} {tx : ByteArray} (B : Blk w p 26 (valC th nu it tx)) (h6 : t[6]?.getD undef = .pointer (some ⟨p, 0, none⟩)) (h : R (.returned (valV th nu it tx)) w) :
    bodyPost Tryd.prog Tryd.f22 R .ret { tmps := t, defers := [] } w := by
  obtain ⟨c0, c1, c2, c3⟩ := val_cells B
  refine bodyPost_ret (v := valV th nu it tx) ?_ rfl h
  simp [results, Tryd.results22, go_sem, c0, c1, c2, c3, h6, valV]
theorem ValIn.of {kd : Int} {nu : Nat} {it : Int} {tx : ByteArray} (I : ActIn kd nu it tx) : ValIn nu it tx := ⟨I.nu, I.it, I.tx⟩

set_option maxRecDepth 100000 in
set_option maxHeartbeats 4000000 in
theorem oafter_any (key : ByteArray) (hk : key.size ≤ 9223372036854775807) (th : Bool) (vn : Nat) (vi : Int) (vt : ByteArray) (IV : ValIn vn vi vt) (kd : Int) (nu : Nat) (it : Int) (tx : ByteArray) (I : ActIn kd nu it tx) (w : World) :
    Calls Tryd.prog 22 #[.string key, valV th vn vi vt, actV kd nu it tx] w fun e w' => RetV e (afterA key.data.toList (v6 th vn vi vt) (a6 kd nu it tx)) ∧ Below w.heap.size w w' := by
  have R := fun W => Lib.hid (ofits_any key hk kd nu it tx I W)
  have KD := fun W => Lib.hid (lkind_any key hk W)
  obtain ⟨c, hcc⟩ : ∃ c, kindL key.data.toList = c := ⟨_, rfl⟩
  rw [hcc] at KD
  have ON := fun W => Lib.hid (lonto_any c vn vi IV.nu kd nu it tx I W)
  simp only [actV] at R ON
  unfold actV valV
  have S0 : Hid (Aft6 w th vn vi vt kd nu it tx (((w.alloc (.cells #[.bool th, .float .f64 vn, .int .i64 vi, .string vt] 26)).alloc (.cells #[.int .i64 kd, .float .f64 nu, .int .i64 it, .string tx] 24)).alloc (.cells #[.bool false, .float .f64 0, .int .i64 0, .string ⟨#[]⟩] 26))) := ⟨((Blk.new w _ _).alloc _).alloc _, (Blk.new' (by simp) _ _).alloc _, Blk.new' (by simp) _ _, (((Below.refl _ w).alloc (Nat.le_refl _) _).alloc (by simp) _).alloc (by simp; omega) _⟩
  have hst := run_sto_f64
  obtain ⟨q1, h1⟩ : ∃ q, fitsA key.data.toList (a6 kd nu it tx) = q := ⟨_, rfl⟩
  obtain ⟨D, hD⟩ : ∃ D, Hid (doneA (v6 th vn vi vt) (a6 kd nu it tx) = D) := ⟨_, rfl⟩
  have hA : afterA key.data.toList (v6 th vn vi vt) (a6 kd nu it tx) = if q1 then D else v6 th vn vi vt := by unfold afterA; rw [h1, hD.out]
  rw [hA]
  rw [h1] at R
  clear hA
  have IV := Lib.hid IV
  have I := Lib.hid I
  have H1 := Lib.hid h1
  have HC := Lib.hid hcc
  clear h1 hcc
  go_enter Tryd.func22, Tryd.ntmps22
  go_wp2_with fail
  generalize (((w.alloc (.cells #[.bool th, .float .f64 vn, .int .i64 vi, .string vt] 26)).alloc (.cells #[.int .i64 kd, .float .f64 nu, .int .i64 it, .string tx] 24)).alloc (.cells #[.bool false, .float .f64 0, .int .i64 0, .string ⟨#[]⟩] 26)) = w0 at S0 ⊢
  refine (R _).out.mono ?_
  rintro e w2 ⟨rfl, g2⟩
  have S2 := Lib.hid (S0.out.on g2)
  clear S0 g2 R
  obtain ⟨v0, v1, v2, v3⟩ := val_cells S2.out.v
  obtain ⟨a0, a1, a2, a3⟩ := act_cells S2.out.a
  have z0 := S2.out.r.frozen 0
  have z1 := S2.out.r.frozen 1
  have z2 := S2.out.r.frozen 2
  have z3 := S2.out.r.frozen 3
  obtain ⟨r0, r1, r2, r3⟩ := val_cells S2.out.r
  cases q1
  · skip
    go_wp2_with fail
    try simp only [Exit.inBlock, Exit.then]
    exact oafter_end (blk_set4 S2.out.r (.bool th) (.float .f64 vn) (.int .i64 vi) (.string vt)) rfl ⟨⟨th, vn, vi, vt, rfl, IV.out, rfl⟩, below_set4 S2.out.below (by omega) _ _ _ _⟩
  · by_cases h4 : kd = 4
    · have e4 : (kd == 4) = true := by rw [beq_iff_eq]; exact h4
      have hE : Hid (D = V6.zero) := by have := hD.out; unfold doneA a6 at this; rw [if_pos h4] at this; exact this.symm
      clear h4 hD H1
      go_wp2_with fail
      try simp only [Exit.inBlock, Exit.then]
      exact oafter_end (blk_set4 S2.out.r (.bool false) (.float .f64 0) (.int .i64 0) (.string ⟨#[]⟩)) rfl ⟨⟨false, 0, 0, ⟨#[]⟩, rfl, ValIn.zero, by rw [hE.out]; unfold v6 V6.zero; rw [rank_zero]⟩, below_set4 S2.out.below (by omega) _ _ _ _⟩
    · have e4 : (kd == 4) = false := by rw [beq_eq_false_iff_ne]; exact h4
      cases th
      · have hE : Hid (D = v6 true nu it tx) := by have := hD.out; rw [first_done H1.out _ rfl h4] at this; exact this.symm
        clear h4 hD H1
        go_wp2_with fail
        try simp only [Exit.inBlock, Exit.then]
        exact oafter_end (blk_set4 S2.out.r (.bool true) (.float .f64 nu) (.int .i64 it) (.string tx)) rfl ⟨⟨true, nu, it, tx, rfl, (ValIn.of I.out), by rw [hE.out]⟩, below_set4 S2.out.below (by omega) _ _ _ _⟩
      · have hE : Hid (∀ kd3 nu3 it3 tx3, a6 kd3 nu3 it3 tx3 = ontoA c (rankN vn) vi (a6 kd nu it tx) → v6 true nu3 it3 tx3 = D) := by
          intro kd3 nu3 it3 tx3 hx
          have := hD.out
          rw [onto_done H1.out _ rfl h4, HC.out] at this
          rw [← this]
          have h1 : ontoA c (v6 true vn vi vt).r (v6 true vn vi vt).it (a6 kd nu it tx) = a6 kd3 nu3 it3 tx3 := hx.symm
          rw [h1]
          rfl
        clear h4 hD H1 HC
        go_wp2_with fail
        clear v0 v1 v2 v3 a0 a1 a2 a3 z0 z1 z2 z3 r0 r1 r2 r3
        refine wp_region_ord (fun W => Aft6 w true vn vi vt kd nu it tx W) (fun w w' => Below w.heap.size w w') [Slot.is (.string key), Slot.is (.int .u8 (c.toNat : Int)), Slot.is (.pointer (some ⟨w.heap.size, 1, none⟩)), Slot.is (.float .f64 vn), Slot.is (.pointer (some ⟨w.heap.size, 2, none⟩)), Slot.is (.int .i64 vi), Slot.is (.agg #[.int .i64 kd, .float .f64 nu, .int .i64 it, .string tx]), SlotAct (ontoA c (rankN vn) vi (a6 kd nu it tx))] 8 1 (by kernel_rfl) (fun _ _ h => Below.size h) (by kernel_rfl) (by kernel_rfl) (by kernel_rfl) rfl (by decide) S2.out.drew (fun i hi => ?_) (fun a w3 J => ?_)
        · rcases i with _ | _ | _ | _ | _ | _ | _ | _ | i
          · refine ordOb_at (o := _) rfl rfl (fun a W hC hF hD => ?_)
            have g0 : a.tmps[0]? = some (.string key) := hF 0 _ (by kernel_rfl) rfl
            unfold frees
            go_simp
            exact ⟨hC, Below.refl _ _, rfl, fun h => by cases h⟩
          · refine ordOb_at (o := _) rfl rfl (fun a W hC hF hD => ?_)
            have g18 : a.tmps[18]? = some (.string key) := by
              obtain ⟨v, h1, h2⟩ := hD 0 18 (by kernel_rfl) (by kernel_rfl)
              rw [h1]
              exact congrArg some h2
            unfold frees
            go_simp
            refine ⟨rfl, (KD _).out.mono ?_⟩
            rintro e W2 ⟨rfl, rfl⟩
            exact ⟨_, rfl, hC, Below.refl _ _, rfl⟩
          · refine ordOb_at (o := _) rfl rfl (fun a W hC hF hD => ?_)
            have g4 : a.tmps[4]? = some (.pointer (some ⟨w.heap.size, 0, none⟩)) := hF 4 _ (by kernel_rfl) rfl
            unfold frees
            go_simp
            exact ⟨hC, Below.refl _ _, rfl, fun h => by cases h⟩
          · refine ordOb_at (o := _) rfl rfl (fun a W hC hF hD => ?_)
            have g20 : a.tmps[20]? = some (.pointer (some ⟨w.heap.size, 1, none⟩)) := by
              obtain ⟨v, h1, h2⟩ := hD 2 20 (by kernel_rfl) (by kernel_rfl)
              rw [h1]
              exact congrArg some h2
            obtain ⟨c0, c1, c2, c3⟩ := val_cells hC.v
            unfold frees
            go_simp
            exact ⟨hC, Below.refl _ _, rfl, fun h => by cases h⟩
          · refine ordOb_at (o := _) rfl rfl (fun a W hC hF hD => ?_)
            have g4 : a.tmps[4]? = some (.pointer (some ⟨w.heap.size, 0, none⟩)) := hF 4 _ (by kernel_rfl) rfl
            unfold frees
            go_simp
            exact ⟨hC, Below.refl _ _, rfl, fun h => by cases h⟩
          · refine ordOb_at (o := _) rfl rfl (fun a W hC hF hD => ?_)
            have g22 : a.tmps[22]? = some (.pointer (some ⟨w.heap.size, 2, none⟩)) := by
              obtain ⟨v, h1, h2⟩ := hD 4 22 (by kernel_rfl) (by kernel_rfl)
              rw [h1]
              exact congrArg some h2
            obtain ⟨c0, c1, c2, c3⟩ := val_cells hC.v
            unfold frees
            go_simp
            exact ⟨hC, Below.refl _ _, rfl, fun h => by cases h⟩
          · refine ordOb_at (o := _) rfl rfl (fun a W hC hF hD => ?_)
            have g5 : a.tmps[5]? = some (.pointer (some ⟨w.heap.size + 1, 0, none⟩)) := hF 5 _ (by kernel_rfl) rfl
            obtain ⟨c0, c1, c2, c3⟩ := act_cells hC.a
            unfold frees
            go_simp
            exact ⟨hC, Below.refl _ _, rfl, fun h => by cases h⟩
          · refine ordOb_at (o := _) rfl rfl (fun a W hC hF hD => ?_)
            have g19 : a.tmps[19]? = some (.int .u8 (c.toNat : Int)) := by
              obtain ⟨v, h1, h2⟩ := hD 1 19 (by kernel_rfl) (by kernel_rfl)
              rw [h1]
              exact congrArg some h2
            have g21 : a.tmps[21]? = some (.float .f64 vn) := by
              obtain ⟨v, h1, h2⟩ := hD 3 21 (by kernel_rfl) (by kernel_rfl)
              rw [h1]
              exact congrArg some h2
            have g23 : a.tmps[23]? = some (.int .i64 vi) := by
              obtain ⟨v, h1, h2⟩ := hD 5 23 (by kernel_rfl) (by kernel_rfl)
              rw [h1]
              exact congrArg some h2
            have g24 : a.tmps[24]? = some (.agg #[.int .i64 kd, .float .f64 nu, .int .i64 it, .string tx]) := by
              obtain ⟨v, h1, h2⟩ := hD 6 24 (by kernel_rfl) (by kernel_rfl)
              rw [h1]
              exact congrArg some h2
            unfold frees
            go_simp
            refine ⟨rfl, (ON _).out.mono ?_⟩
            rintro e W2 ⟨⟨kd3, nu3, it3, tx3, rfl, hv, hx⟩, g⟩
            exact ⟨_, rfl, hC.on g, g, kd3, nu3, it3, tx3, rfl, hv, hx⟩
          · exact absurd hi (by omega)
        · obtain ⟨vs, hln, rfl, hC, hS, hap⟩ := J.all_ (by kernel_rfl) (ds := [some 18, some 19, some 20, some 21, some 22, some 23, some 24, some 25]) (by kernel_rfl)
          clear J
          obtain ⟨y0, vs, rfl⟩ := List.exists_cons_of_length_eq_add_one hln
          replace hln := Nat.succ.inj hln
          obtain ⟨y1, vs, rfl⟩ := List.exists_cons_of_length_eq_add_one hln
          replace hln := Nat.succ.inj hln
          obtain ⟨y2, vs, rfl⟩ := List.exists_cons_of_length_eq_add_one hln
          replace hln := Nat.succ.inj hln
          obtain ⟨y3, vs, rfl⟩ := List.exists_cons_of_length_eq_add_one hln
          replace hln := Nat.succ.inj hln
          obtain ⟨y4, vs, rfl⟩ := List.exists_cons_of_length_eq_add_one hln
          replace hln := Nat.succ.inj hln
          obtain ⟨y5, vs, rfl⟩ := List.exists_cons_of_length_eq_add_one hln
          replace hln := Nat.succ.inj hln
          obtain ⟨y6, vs, rfl⟩ := List.exists_cons_of_length_eq_add_one hln
          replace hln := Nat.succ.inj hln
          obtain ⟨y7, vs, rfl⟩ := List.exists_cons_of_length_eq_add_one hln
          replace hln := Nat.succ.inj hln
          obtain rfl := List.eq_nil_of_length_eq_zero hln
          have q0 : y0 = .string key := hS 0 (by decide)
          have q1 : y1 = .int .u8 (c.toNat : Int) := hS 1 (by decide)
          have q2 : y2 = .pointer (some ⟨w.heap.size, 1, none⟩) := hS 2 (by decide)
          have q3 : y3 = .float .f64 vn := hS 3 (by decide)
          have q4 : y4 = .pointer (some ⟨w.heap.size, 2, none⟩) := hS 4 (by decide)
          have q5 : y5 = .int .i64 vi := hS 5 (by decide)
          have q6 : y6 = .agg #[.int .i64 kd, .float .f64 nu, .int .i64 it, .string tx] := hS 6 (by decide)
          obtain ⟨kd3, nu3, it3, tx3, q7, hv3, hx3⟩ := hS 7 (by decide)
          have q7 : y7 = actV kd3 nu3 it3 tx3 := q7
          subst q0 q1 q2 q3 q4 q5 q6 q7
          clear hS hap
          simp only [fillT, List.setIfInBounds_toArray, List.set_cons_zero, List.set_cons_succ]
          simp only [actV]
          have S3 := Lib.hid hC
          clear hC S2
          obtain ⟨a0, a1, a2, a3⟩ := act_cells S3.out.a
          have z0 := S3.out.a.frozen 0
          have z1 := S3.out.a.frozen 1
          have z2 := S3.out.a.frozen 2
          have z3 := S3.out.a.frozen 3
          refine wpAny_ready (rs := [8]) (by kernel_rfl) (by simp) ?_
          refine AllReady.cons rfl (fun K hK => ?_) AllReady.nil
          go_simp
          refine hK _ _ ?_
          clear hK K
          have S2 := Lib.hid (S3.out.act kd3 nu3 it3 tx3)
          clear a0 a1 a2 a3 z0 z1 z2 z3 S3
          generalize World.setCell (World.setCell (World.setCell (World.setCell _ _ _) _ _) _ _) _ _ = w4 at S2 ⊢
          refine wpAny_done (by kernel_rfl) ?_ _
          simp only [Exit.then]
          obtain ⟨a0, a1, a2, a3⟩ := act_cells S2.out.a
          have z0 := S2.out.r.frozen 0
          have z1 := S2.out.r.frozen 1
          have z2 := S2.out.r.frozen 2
          have z3 := S2.out.r.frozen 3
          obtain ⟨r0, r1, r2, r3⟩ := val_cells S2.out.r
          go_wp2_with fail
          try simp only [Exit.inBlock, Exit.then]
          exact oafter_end (blk_set4 S2.out.r (.bool true) (.float .f64 nu3) (.int .i64 it3) (.string tx3)) rfl ⟨⟨true, nu3, it3, tx3, rfl, (ValIn.of hv3), by exact hE.out _ _ _ _ hx3⟩, below_set4 S2.out.below (by omega) _ _ _ _⟩

/-- What stands while two acts become one. -/
structure Bth6 (w : World) (kd : Int) (nu : Nat) (it : Int) (tx : ByteArray) (kd' : Int) (nu' : Nat) (it' : Int) (tx' : ByteArray) (W : World) : Prop where
  a : Blk W w.heap.size 24 (actC kd nu it tx)
  b : Blk W (w.heap.size + 1) 24 (actC kd' nu' it' tx')
  r : Blk W (w.heap.size + 1 + 1) 24 (actC 0 0 0 ⟨#[]⟩)
  below : Below w.heap.size w W
section
variable {w W W' : World} {kd : Int} {nu : Nat} {it : Int} {tx : ByteArray} {kd' : Int} {nu' : Nat} {it' : Int} {tx' : ByteArray}
theorem Bth6.on (h : Bth6 w kd nu it tx kd' nu' it' tx' W) (hb : Below W.heap.size W W') : Bth6 w kd nu it tx kd' nu' it' tx' W' := ⟨h.a.below hb h.a.lt, h.b.below hb h.b.lt, h.r.below hb h.r.lt, h.below.trans (hb.mono h.below.size)⟩
theorem Bth6.drew (h : Bth6 w kd nu it tx kd' nu' it' tx' W) : Bth6 w kd nu it tx kd' nu' it' tx' W.drew := ⟨h.a, h.b, h.r, h.below.drew⟩
end
theorem oboth_end {w : World} {p : Nat} {t : Array Value} {R : Ending → World → Prop} {kd : Int} {nu : Nat} {it : Int} {tx : ByteArray} (B : Blk w p 24 (actC kd nu it tx)) (h6 : t[6]?.getD undef = .pointer (some ⟨p, 0, none⟩)) (h : R (.returned (actV kd nu it tx)) w) :
    bodyPost Tryd.prog Tryd.f24 R .ret { tmps := t, defers := [] } w := by
  obtain ⟨c0, c1, c2, c3⟩ := act_cells B
  refine bodyPost_ret (v := actV kd nu it tx) ?_ rfl h
  simp [results, Tryd.results24, go_sem, c0, c1, c2, c3, h6, actV]

set_option maxRecDepth 100000 in
set_option maxHeartbeats 4000000 in
theorem oboth_any (key : ByteArray) (hk : key.size ≤ 9223372036854775807) (kd : Int) (nu : Nat) (it : Int) (tx : ByteArray) (I : ActIn kd nu it tx) (kd' : Int) (nu' : Nat) (it' : Int) (tx' : ByteArray) (I' : ActIn kd' nu' it' tx') (w : World) :
    Calls Tryd.prog 24 #[.string key, actV kd nu it tx, actV kd' nu' it' tx'] w fun e w' => RetA e (bothA key.data.toList (a6 kd nu it tx) (a6 kd' nu' it' tx')) ∧ Below w.heap.size w w' := by
  have R1 := fun W => Lib.hid (ofits_any key hk kd nu it tx I W)
  have R2 := fun W => Lib.hid (ofits_any key hk kd' nu' it' tx' I' W)
  have KD := fun W => Lib.hid (lkind_any key hk W)
  obtain ⟨c, hcc⟩ : ∃ c, kindL key.data.toList = c := ⟨_, rfl⟩
  rw [hcc] at KD
  have ON := fun W => Lib.hid (lonto_any c nu it I.nu kd' nu' it' tx' I' W)
  simp only [actV] at R1 R2 ON
  unfold actV
  have S0 : Hid (Bth6 w kd nu it tx kd' nu' it' tx' (((w.alloc (.cells #[.int .i64 kd, .float .f64 nu, .int .i64 it, .string tx] 24)).alloc (.cells #[.int .i64 kd', .float .f64 nu', .int .i64 it', .string tx'] 24)).alloc (.cells #[.int .i64 0, .float .f64 0, .int .i64 0, .string ⟨#[]⟩] 24))) := ⟨((Blk.new w _ _).alloc _).alloc _, (Blk.new' (by simp) _ _).alloc _, Blk.new' (by simp) _ _, (((Below.refl _ w).alloc (Nat.le_refl _) _).alloc (by simp) _).alloc (by simp; omega) _⟩
  have hst := run_sto_f64
  obtain ⟨q1, h1⟩ : ∃ q, fitsA key.data.toList (a6 kd nu it tx) = q := ⟨_, rfl⟩
  obtain ⟨q2, h2⟩ : ∃ q, fitsA key.data.toList (a6 kd' nu' it' tx') = q := ⟨_, rfl⟩
  obtain ⟨D, hD⟩ : ∃ D, Hid (bothA key.data.toList (a6 kd nu it tx) (a6 kd' nu' it' tx') = D) := ⟨_, rfl⟩
  rw [hD.out]
  rw [h1] at R1
  rw [h2] at R2
  have I := Lib.hid I
  have I' := Lib.hid I'
  have H1 := Lib.hid h1
  have H2 := Lib.hid h2
  have HC := Lib.hid hcc
  clear h1 h2 hcc
  go_enter Tryd.func24, Tryd.ntmps24
  go_wp2_with fail
  generalize (((w.alloc (.cells #[.int .i64 kd, .float .f64 nu, .int .i64 it, .string tx] 24)).alloc (.cells #[.int .i64 kd', .float .f64 nu', .int .i64 it', .string tx'] 24)).alloc (.cells #[.int .i64 0, .float .f64 0, .int .i64 0, .string ⟨#[]⟩] 24)) = w0 at S0 ⊢
  refine (R1 _).out.mono ?_
  rintro e w2 ⟨rfl, g2⟩
  have S2 := Lib.hid (S0.out.on g2)
  clear S0 g2 R1
  obtain ⟨a0, a1, a2, a3⟩ := act_cells S2.out.a
  obtain ⟨b0, b1, b2, b3⟩ := act_cells S2.out.b
  have z0 := S2.out.r.frozen 0
  have z1 := S2.out.r.frozen 1
  have z2 := S2.out.r.frozen 2
  have z3 := S2.out.r.frozen 3
  obtain ⟨r0, r1, r2, r3⟩ := act_cells S2.out.r
  cases q1
  · have hE : Hid (D = a6 kd' nu' it' tx') := by have := hD.out; unfold bothA at this; rw [H1.out] at this; exact this.symm
    clear hD H1 H2
    go_wp2_with fail
    try simp only [Exit.inBlock, Exit.then]
    exact oboth_end (blk_set4 S2.out.r (.int .i64 kd') (.float .f64 nu') (.int .i64 it') (.string tx')) rfl ⟨⟨kd', nu', it', tx', rfl, I'.out, hE.out.symm⟩, below_set4 S2.out.below (by omega) _ _ _ _⟩
  · go_wp2_with fail
    refine (R2 _).out.mono ?_
    rintro e w3 ⟨rfl, g3⟩
    have S3 := Lib.hid (S2.out.on g3)
    clear S2 g3 R2 a0 a1 a2 a3 b0 b1 b2 b3 z0 z1 z2 z3 r0 r1 r2 r3
    have S2 := S3
    clear S3
    obtain ⟨a0, a1, a2, a3⟩ := act_cells S2.out.a
    obtain ⟨b0, b1, b2, b3⟩ := act_cells S2.out.b
    have z0 := S2.out.r.frozen 0
    have z1 := S2.out.r.frozen 1
    have z2 := S2.out.r.frozen 2
    have z3 := S2.out.r.frozen 3
    obtain ⟨r0, r1, r2, r3⟩ := act_cells S2.out.r
    cases q2
    · have hE : Hid (D = a6 kd' nu' it' tx') := by have := hD.out; unfold bothA at this; rw [H1.out, H2.out] at this; exact this.symm
      clear hD H1 H2
      go_wp2_with fail
      try simp only [Exit.inBlock, Exit.then]
      exact oboth_end (blk_set4 S2.out.r (.int .i64 kd') (.float .f64 nu') (.int .i64 it') (.string tx')) rfl ⟨⟨kd', nu', it', tx', rfl, I'.out, hE.out.symm⟩, below_set4 S2.out.below (by omega) _ _ _ _⟩
    · have hE : Hid (ontoA c (rankN nu) it (a6 kd' nu' it' tx') = D) := by
        have := hD.out
        rw [onto_both H1.out H2.out, HC.out] at this
        exact this
      clear hD H1 H2 HC
      go_wp2_with fail
      clear a0 a1 a2 a3 b0 b1 b2 b3 z0 z1 z2 z3 r0 r1 r2 r3
      refine wp_region_ord (fun W => Bth6 w kd nu it tx kd' nu' it' tx' W) (fun w w' => Below w.heap.size w w') [Slot.is (.string key), Slot.is (.int .u8 (c.toNat : Int)), Slot.is (.pointer (some ⟨w.heap.size, 1, none⟩)), Slot.is (.float .f64 nu), Slot.is (.pointer (some ⟨w.heap.size, 2, none⟩)), Slot.is (.int .i64 it), Slot.is (.agg #[.int .i64 kd', .float .f64 nu', .int .i64 it', .string tx']), SlotAct (ontoA c (rankN nu) it (a6 kd' nu' it' tx'))] 8 1 (by kernel_rfl) (fun _ _ h => Below.size h) (by kernel_rfl) (by kernel_rfl) (by kernel_rfl) rfl (by decide) S2.out.drew (fun i hi => ?_) (fun a w3 J => ?_)
      · rcases i with _ | _ | _ | _ | _ | _ | _ | _ | i
        · refine ordOb_at (o := _) rfl rfl (fun a W hC hF hD => ?_)
          have g0 : a.tmps[0]? = some (.string key) := hF 0 _ (by kernel_rfl) rfl
          unfold frees
          go_simp
          exact ⟨hC, Below.refl _ _, rfl, fun h => by cases h⟩
        · refine ordOb_at (o := _) rfl rfl (fun a W hC hF hD => ?_)
          have g18 : a.tmps[18]? = some (.string key) := by
            obtain ⟨v, h1, h2⟩ := hD 0 18 (by kernel_rfl) (by kernel_rfl)
            rw [h1]
            exact congrArg some h2
          unfold frees
          go_simp
          refine ⟨rfl, (KD _).out.mono ?_⟩
          rintro e W2 ⟨rfl, rfl⟩
          exact ⟨_, rfl, hC, Below.refl _ _, rfl⟩
        · refine ordOb_at (o := _) rfl rfl (fun a W hC hF hD => ?_)
          have g4 : a.tmps[4]? = some (.pointer (some ⟨w.heap.size, 0, none⟩)) := hF 4 _ (by kernel_rfl) rfl
          unfold frees
          go_simp
          exact ⟨hC, Below.refl _ _, rfl, fun h => by cases h⟩
        · refine ordOb_at (o := _) rfl rfl (fun a W hC hF hD => ?_)
          have g20 : a.tmps[20]? = some (.pointer (some ⟨w.heap.size, 1, none⟩)) := by
            obtain ⟨v, h1, h2⟩ := hD 2 20 (by kernel_rfl) (by kernel_rfl)
            rw [h1]
            exact congrArg some h2
          obtain ⟨c0, c1, c2, c3⟩ := act_cells hC.a
          unfold frees
          go_simp
          exact ⟨hC, Below.refl _ _, rfl, fun h => by cases h⟩
        · refine ordOb_at (o := _) rfl rfl (fun a W hC hF hD => ?_)
          have g4 : a.tmps[4]? = some (.pointer (some ⟨w.heap.size, 0, none⟩)) := hF 4 _ (by kernel_rfl) rfl
          unfold frees
          go_simp
          exact ⟨hC, Below.refl _ _, rfl, fun h => by cases h⟩
        · refine ordOb_at (o := _) rfl rfl (fun a W hC hF hD => ?_)
          have g22 : a.tmps[22]? = some (.pointer (some ⟨w.heap.size, 2, none⟩)) := by
            obtain ⟨v, h1, h2⟩ := hD 4 22 (by kernel_rfl) (by kernel_rfl)
            rw [h1]
            exact congrArg some h2
          obtain ⟨c0, c1, c2, c3⟩ := act_cells hC.a
          unfold frees
          go_simp
          exact ⟨hC, Below.refl _ _, rfl, fun h => by cases h⟩
        · refine ordOb_at (o := _) rfl rfl (fun a W hC hF hD => ?_)
          have g5 : a.tmps[5]? = some (.pointer (some ⟨w.heap.size + 1, 0, none⟩)) := hF 5 _ (by kernel_rfl) rfl
          obtain ⟨c0, c1, c2, c3⟩ := act_cells hC.b
          unfold frees
          go_simp
          exact ⟨hC, Below.refl _ _, rfl, fun h => by cases h⟩
        · refine ordOb_at (o := _) rfl rfl (fun a W hC hF hD => ?_)
          have g19 : a.tmps[19]? = some (.int .u8 (c.toNat : Int)) := by
            obtain ⟨v, h1, h2⟩ := hD 1 19 (by kernel_rfl) (by kernel_rfl)
            rw [h1]
            exact congrArg some h2
          have g21 : a.tmps[21]? = some (.float .f64 nu) := by
            obtain ⟨v, h1, h2⟩ := hD 3 21 (by kernel_rfl) (by kernel_rfl)
            rw [h1]
            exact congrArg some h2
          have g23 : a.tmps[23]? = some (.int .i64 it) := by
            obtain ⟨v, h1, h2⟩ := hD 5 23 (by kernel_rfl) (by kernel_rfl)
            rw [h1]
            exact congrArg some h2
          have g24 : a.tmps[24]? = some (.agg #[.int .i64 kd', .float .f64 nu', .int .i64 it', .string tx']) := by
            obtain ⟨v, h1, h2⟩ := hD 6 24 (by kernel_rfl) (by kernel_rfl)
            rw [h1]
            exact congrArg some h2
          unfold frees
          go_simp
          refine ⟨rfl, (ON _).out.mono ?_⟩
          rintro e W2 ⟨⟨kd3, nu3, it3, tx3, rfl, hv, hx⟩, g⟩
          exact ⟨_, rfl, hC.on g, g, kd3, nu3, it3, tx3, rfl, hv, hx⟩
        · exact absurd hi (by omega)
      · obtain ⟨vs, hln, rfl, hC, hS, hap⟩ := J.all_ (by kernel_rfl) (ds := [some 18, some 19, some 20, some 21, some 22, some 23, some 24, some 25]) (by kernel_rfl)
        clear J
        obtain ⟨y0, vs, rfl⟩ := List.exists_cons_of_length_eq_add_one hln
        replace hln := Nat.succ.inj hln
        obtain ⟨y1, vs, rfl⟩ := List.exists_cons_of_length_eq_add_one hln
        replace hln := Nat.succ.inj hln
        obtain ⟨y2, vs, rfl⟩ := List.exists_cons_of_length_eq_add_one hln
        replace hln := Nat.succ.inj hln
        obtain ⟨y3, vs, rfl⟩ := List.exists_cons_of_length_eq_add_one hln
        replace hln := Nat.succ.inj hln
        obtain ⟨y4, vs, rfl⟩ := List.exists_cons_of_length_eq_add_one hln
        replace hln := Nat.succ.inj hln
        obtain ⟨y5, vs, rfl⟩ := List.exists_cons_of_length_eq_add_one hln
        replace hln := Nat.succ.inj hln
        obtain ⟨y6, vs, rfl⟩ := List.exists_cons_of_length_eq_add_one hln
        replace hln := Nat.succ.inj hln
        obtain ⟨y7, vs, rfl⟩ := List.exists_cons_of_length_eq_add_one hln
        replace hln := Nat.succ.inj hln
        obtain rfl := List.eq_nil_of_length_eq_zero hln
        have q0 : y0 = .string key := hS 0 (by decide)
        have q1 : y1 = .int .u8 (c.toNat : Int) := hS 1 (by decide)
        have q2 : y2 = .pointer (some ⟨w.heap.size, 1, none⟩) := hS 2 (by decide)
        have q3 : y3 = .float .f64 nu := hS 3 (by decide)
        have q4 : y4 = .pointer (some ⟨w.heap.size, 2, none⟩) := hS 4 (by decide)
        have q5 : y5 = .int .i64 it := hS 5 (by decide)
        have q6 : y6 = .agg #[.int .i64 kd', .float .f64 nu', .int .i64 it', .string tx'] := hS 6 (by decide)
        obtain ⟨kd3, nu3, it3, tx3, q7, hv3, hx3⟩ := hS 7 (by decide)
        have q7 : y7 = actV kd3 nu3 it3 tx3 := q7
        subst q0 q1 q2 q3 q4 q5 q6 q7
        clear hS hap
        simp only [fillT, List.setIfInBounds_toArray, List.set_cons_zero, List.set_cons_succ]
        simp only [actV]
        have S3 := Lib.hid hC
        clear hC S2
        have z0 := S3.out.r.frozen 0
        have z1 := S3.out.r.frozen 1
        have z2 := S3.out.r.frozen 2
        have z3 := S3.out.r.frozen 3
        obtain ⟨r0, r1, r2, r3⟩ := act_cells S3.out.r
        refine wpAny_ready (rs := [8]) (by kernel_rfl) (by simp) ?_
        refine AllReady.cons rfl (fun K hK => ?_) AllReady.nil
        go_simp
        refine hK _ _ ?_
        clear hK K
        have S2 := S3
        clear S3
        refine wpAny_done (by kernel_rfl) ?_ _
        try simp only [Exit.then]
        go_wp2_with fail
        try simp only [Exit.inBlock, Exit.then]
        exact oboth_end (blk_set4 S2.out.r (.int .i64 kd3) (.float .f64 nu3) (.int .i64 it3) (.string tx3)) rfl ⟨⟨kd3, nu3, it3, tx3, rfl, hv3, hx3.trans hE.out⟩, below_set4 S2.out.below (by omega) _ _ _ _⟩

set_option maxRecDepth 100000 in
set_option maxHeartbeats 4000000 in
theorem ltext_any (key : ByteArray) (hk : key.size ≤ 9223372036854775807) (th : Bool) (nu : Nat) (it : Int) (tx : ByteArray) (IV : ValIn nu it tx) (hq : tx.size ≤ 30000000000000) (w : World) (hL : LaidR w) :
    Calls Tryd.prog 26 #[.string key, valV th nu it tx] w fun e w' => e = .returned (.string ⟨(textV key.data.toList th nu it tx.data.toList).toArray⟩) ∧ Below w.heap.size w w' := by
  have KD := fun W => Lib.hid (lkind_any key hk W)
  have TD := fun W (h : LaidR W) => Lib.hid (digits_any it W (by have := IV.it; simp [Lit.wf, IntKind.min, IntKind.max, IntKind.signed, IntKind.bits] at this; omega) (by have := IV.it; simp [Lit.wf, IntKind.min, IntKind.max, IntKind.signed, IntKind.bits] at this; omega) h.pow10)
  have TQ := fun W => Lib.hid (quote_any tx W hq)
  have TR := fun W (h : LaidR W) => Lib.hid (text_any nu IV.nu W h)
  unfold valV
  have hb : Hid (Below w.heap.size w (w.alloc (.cells #[.bool th, .float .f64 nu, .int .i64 it, .string tx] 26))) := (Below.refl _ w).alloc (Nat.le_refl _) _
  have B0 : Hid (Blk (w.alloc (.cells #[.bool th, .float .f64 nu, .int .i64 it, .string tx] 26)) w.heap.size 26 (valC th nu it tx)) := Blk.new w _ _
  have hL1 := hL.on hb.out
  obtain ⟨T, HT⟩ : ∃ T, Hid (textV key.data.toList th nu it tx.data.toList = T) := ⟨_, rfl⟩
  rw [HT.out]
  obtain ⟨c0, c1, c2, c3⟩ := val_cells B0.out
  cases th
  · have E : Hid (T = [110, 111, 110, 101]) := HT.out.symm
    go_enter Tryd.func26, Tryd.ntmps26
    go_wp2_with fail
    all_goals
      go_ret
      exact ⟨by rw [E.out]; rfl, hb.out⟩
  · obtain ⟨c, hcc⟩ : ∃ c, kindL key.data.toList = c := ⟨_, rfl⟩
    rw [hcc] at KD
    have E : Hid (T = if c = 114 ∨ c = 120 ∨ c = 110 then textN nu else if c = 99 then Lib.itoa it else if c = 116 then quoteL tx.data.toList else [110, 111, 110, 101]) := by
      unfold Hid
      rw [← HT.out, ← hcc]
      unfold textV kindL
      cases hk : isKeyL key.data.toList
      · simp
      · simp only [Bool.and_self, if_true]
        rcases isKeyL_head hk with h | h | h | h | h <;> (rw [h]; simp)
    clear HT
    have e1 : ((c.toNat : Int) == 114) = decide (c = 114) := byte_eq c 114
    have e2 : ((c.toNat : Int) == 120) = decide (c = 120) := byte_eq c 120
    have e3 : ((c.toNat : Int) == 110) = decide (c = 110) := byte_eq c 110
    have e4 : ((c.toNat : Int) == 99) = decide (c = 99) := byte_eq c 99
    have e5 : ((c.toNat : Int) == 116) = decide (c = 116) := byte_eq c 116
    by_cases g1 : c = 114
    · rw [decide_eq_true g1] at e1
      have E := Lib.hid (E.out.trans (if_pos (Or.inl g1)))
      clear g1 e2 e3 e4 e5
      go_enter Tryd.func26, Tryd.ntmps26
      go_wp2_with fail
      refine (KD _).out.mono ?_
      rintro e w1 ⟨rfl, rfl⟩
      go_wp2_with fail
      refine (TR _ hL1).out.mono ?_
      rintro e w2 ⟨rfl, h2⟩
      have hb2 := hb.out.trans (h2.mono hb.out.size)
      go_wp2_with fail
      go_ret
      exact ⟨by rw [E.out]; rfl, hb2⟩
    · rw [decide_eq_false g1] at e1
      by_cases g2 : c = 120
      · rw [decide_eq_true g2] at e2
        have E := Lib.hid (E.out.trans (if_pos (Or.inr (Or.inl g2))))
        clear g1 g2 e3 e4 e5
        go_enter Tryd.func26, Tryd.ntmps26
        go_wp2_with fail
        refine (KD _).out.mono ?_
        rintro e w1 ⟨rfl, rfl⟩
        go_wp2_with fail
        refine (TR _ hL1).out.mono ?_
        rintro e w2 ⟨rfl, h2⟩
        have hb2 := hb.out.trans (h2.mono hb.out.size)
        go_wp2_with fail
        go_ret
        exact ⟨by rw [E.out]; rfl, hb2⟩
      · rw [decide_eq_false g2] at e2
        by_cases g3 : c = 110
        · rw [decide_eq_true g3] at e3
          have E := Lib.hid (E.out.trans (if_pos (Or.inr (Or.inr g3))))
          clear g1 g2 g3 e4 e5
          go_enter Tryd.func26, Tryd.ntmps26
          go_wp2_with fail
          refine (KD _).out.mono ?_
          rintro e w1 ⟨rfl, rfl⟩
          go_wp2_with fail
          refine (TR _ hL1).out.mono ?_
          rintro e w2 ⟨rfl, h2⟩
          have hb2 := hb.out.trans (h2.mono hb.out.size)
          go_wp2_with fail
          go_ret
          exact ⟨by rw [E.out]; rfl, hb2⟩
        · rw [decide_eq_false g3] at e3
          by_cases g4 : c = 99
          · rw [decide_eq_true g4] at e4
            have E := Lib.hid (E.out.trans ((if_neg (by rintro (h | h | h); exact g1 h; exact g2 h; exact g3 h)).trans (if_pos g4)))
            clear g1 g2 g3 g4 e5
            go_enter Tryd.func26, Tryd.ntmps26
            go_wp2_with fail
            refine (KD _).out.mono ?_
            rintro e w1 ⟨rfl, rfl⟩
            go_wp2_with fail
            refine (TD _ hL1).out.mono ?_
            rintro e w2 ⟨rfl, h2⟩
            have hb2 := hb.out.trans (h2.mono hb.out.size)
            go_wp2_with fail
            go_ret
            exact ⟨by rw [E.out]; rfl, hb2⟩
          · rw [decide_eq_false g4] at e4
            by_cases g5 : c = 116
            · rw [decide_eq_true g5] at e5
              have E := Lib.hid (E.out.trans ((if_neg (by rintro (h | h | h); exact g1 h; exact g2 h; exact g3 h)).trans ((if_neg g4).trans (if_pos g5))))
              clear g1 g2 g3 g4 g5
              go_enter Tryd.func26, Tryd.ntmps26
              go_wp2_with fail
              refine (KD _).out.mono ?_
              rintro e w1 ⟨rfl, rfl⟩
              go_wp2_with fail
              refine (TQ _).out.mono ?_
              rintro e w2 ⟨rfl, h2⟩
              have hb2 := hb.out.trans (h2.mono hb.out.size)
              go_wp2_with fail
              go_ret
              exact ⟨by rw [E.out]; rfl, hb2⟩
            · rw [decide_eq_false g5] at e5
              have E := Lib.hid (E.out.trans ((if_neg (by rintro (h | h | h); exact g1 h; exact g2 h; exact g3 h)).trans ((if_neg g4).trans (if_neg g5))))
              clear g1 g2 g3 g4 g5
              go_enter Tryd.func26, Tryd.ntmps26
              go_wp2_with fail
              refine (KD _).out.mono ?_
              rintro e w1 ⟨rfl, rfl⟩
              go_wp2_with fail
              go_ret
              exact ⟨by rw [E.out]; rfl, hb.out⟩
end Go.Proofs.YthacdegaeokgnaaDoor

namespace Go.Proofs.YthacdegaeokgnaaDoor
open Go.RowKit

/-- The tables that package op reads. -/
abbrev LaidO (w : World) : Prop := LaidR w
theorem LaidO.on {w w' : World} (h : LaidO w) (hb : Below w.heap.size w w') : LaidO w' := LaidR.on h hb
theorem otext_any (key : ByteArray) (hk : key.size ≤ 9223372036854775807) (th : Bool) (nu : Nat) (it : Int) (tx : ByteArray) (I : ValIn nu it tx) (hq : tx.size ≤ 30000000000000) (w : World) (hL : LaidO w) :
    Calls Tryd.prog 26 #[.string key, valV th nu it tx] w fun e w' => e = .returned (.string ⟨(textV key.data.toList th nu it tx.data.toList).toArray⟩) ∧ Below w.heap.size w w' :=
  ltext_any key hk th nu it tx I hq w hL
end Go.Proofs.YthacdegaeokgnaaDoor

namespace Go.Proofs.YthacdegaeokgnaaDoor
open Go.RowKit

theorem alive_after : afterA [99] (v6 true 0 5 ⟨#[]⟩) (a6 1 0 (-7) ⟨#[]⟩) = ⟨true, zr, -2, []⟩ := by
  unfold v6 a6
  rw [rank_zero]
  exact (V6.same_iff _ _).1 (by decide +kernel)
theorem alive_fit1 : fitsA [114, 49] (a6 0 4617315517961601024 0 ⟨#[]⟩) = true := by
  unfold a6
  decide +kernel
theorem alive_fit2 : fitsA [99, 49] (a6 0 4617315517961601024 0 ⟨#[]⟩) = false := by
  unfold a6
  decide +kernel
theorem alive_text : textV [114] true 4609434218613702656 0 [] = [51, 112, 45, 49] := by decide +kernel
theorem alive_none : textV [114] false 0 0 [] = [110, 111, 110, 101] := by decide +kernel

set_option maxRecDepth 100000 in
set_option maxHeartbeats 2000000 in
theorem oalive_any (w : World) (hL : LaidO w) :
    Calls Tryd.prog 11 #[] w fun e w' => e = .returned (.bool true) ∧ Below w.heap.size w w' := by
  have AF := fun W => Lib.hid (oafter_any ⟨#[99]⟩ (by decide) true 0 5 ⟨#[]⟩ ⟨by decide, by decide, by decide⟩ 1 0 (-7) ⟨#[]⟩ ⟨by decide, by decide, by decide, by decide⟩ W)
  have F1 := fun W => Lib.hid (ofits_any ⟨#[114, 49]⟩ (by decide) 0 4617315517961601024 0 ⟨#[]⟩ ⟨by decide, by decide, by decide, by decide⟩ W)
  have F2 := fun W => Lib.hid (ofits_any ⟨#[99, 49]⟩ (by decide) 0 4617315517961601024 0 ⟨#[]⟩ ⟨by decide, by decide, by decide, by decide⟩ W)
  have T1 := fun W h => Lib.hid (otext_any ⟨#[114]⟩ (by decide) true 4609434218613702656 0 ⟨#[]⟩ ⟨by decide, by decide, by decide⟩ (by decide) W h)
  have T2 := fun W h => Lib.hid (otext_any ⟨#[114]⟩ (by decide) false 0 0 ⟨#[]⟩ ⟨by decide, by decide, by decide⟩ (by decide) W h)
  rw [show (⟨#[99]⟩ : ByteArray).data.toList = [99] from rfl, alive_after] at AF
  rw [show (⟨#[114, 49]⟩ : ByteArray).data.toList = [114, 49] from rfl, alive_fit1] at F1
  rw [show (⟨#[99, 49]⟩ : ByteArray).data.toList = [99, 49] from rfl, alive_fit2] at F2
  rw [show (⟨#[114]⟩ : ByteArray).data.toList = [114] from rfl, show (⟨#[]⟩ : ByteArray).data.toList = [] from rfl, alive_text] at T1
  rw [show (⟨#[114]⟩ : ByteArray).data.toList = [114] from rfl, show (⟨#[]⟩ : ByteArray).data.toList = [] from rfl, alive_none] at T2
  simp only [actV, valV] at AF F1 F2 T1 T2
  have hst := run_sto_f64
  go_enter Tryd.func11, Tryd.ntmps11
  go_wp2_with fail
  refine (AF _).out.mono ?_
  rintro e w1 ⟨⟨th, nu, it, tx, rfl, IV, hv⟩, g1⟩
  have hth : th = true := congrArg V6.th hv
  have hit : it = -2 := congrArg V6.it hv
  subst hth hit
  have B1 := Lib.hid (Blk.new w1 26 #[.bool true, .float .f64 nu, .int .i64 (-2), .string tx])
  have hb2 := Lib.hid (g1.alloc g1.size (.cells #[.bool true, .float .f64 nu, .int .i64 (-2), .string tx] 26))
  clear hv
  simp only [valV]
  go_wp2_with fail
  generalize w1.alloc (.cells #[.bool true, .float .f64 nu, .int .i64 (-2), .string tx] 26) = w2 at B1 hb2 ⊢
  refine (F1 _).out.mono ?_
  rintro e w3 ⟨rfl, g3⟩
  go_wp2_with fail
  refine (F2 _).out.mono ?_
  rintro e w4 ⟨rfl, g4⟩
  have c3 := g3.trans (g4.mono g3.size)
  have B4 := B1.out.below c3 B1.out.lt
  have d0 := B4.cell 0
  have d2 := B4.cell 2
  simp at d0 d2
  have hb4 := Lib.hid (hb2.out.trans (c3.mono hb2.out.size))
  clear c3 g3 g4 B4
  go_wp2_with fail
  refine (T1 _ (hL.on hb4.out)).out.mono ?_
  rintro e w5 ⟨rfl, g5⟩
  have hb5 := Lib.hid (hb4.out.trans (g5.mono hb4.out.size))
  go_wp2_with fail
  refine (T2 _ (hL.on hb5.out)).out.mono ?_
  rintro e w6 ⟨rfl, g6⟩
  have hb6 := Lib.hid (hb5.out.trans (g6.mono hb5.out.size))
  go_wp2_with fail
  go_ret
  exact ⟨rfl, hb6.out⟩
end Go.Proofs.YthacdegaeokgnaaDoor

namespace Go.Proofs.YthacdegaeokgnaaDoor
open Go.RowKit

/-- What chapter 6 sees of a version: its act, time, place, number, vector. -/
structure S6 where
  a : A6
  tm : Int
  o : Int
  x : Int
  xs : List Int

/-- Its time. -/
def mostZ : List Int → Int
  | [] => 0
  | y :: l => l.foldl (fun a x => if a < x then x else a) y
def timeZ (xs : List Int) (o : Int) : Int := if o = 254 then mostZ xs else if 0 ≤ o ∧ o < (xs.length : Int) then xs.getD o.toNat 0 else 0

/-- By its length, then time by time. -/
def lessZ : List Int → List Int → Bool
  | x :: l, y :: m => if x = y then lessZ l m else decide (x < y)
  | _, _ => false
def lesserZ (xs ys : List Int) : Bool := if xs.length = ys.length then lessZ xs ys else decide (xs.length < ys.length)
def greatZ (a b c d e f : Int) : Bool := if a = d then (if b = e then decide (f < c) else decide (e < b)) else decide (d < a)
/-- Does the first one count ahead of the second? -/
def laterS (s t : S6) : Bool := if s.tm = t.tm ∧ s.o = t.o ∧ s.x = t.x then lesserZ s.xs t.xs else greatZ s.tm s.o s.x t.tm t.o t.x
/-- Have they unlike stamps? -/
def apartS (s t : S6) : Prop := ¬ (s.tm = t.tm ∧ s.o = t.o ∧ s.x = t.x)

theorem greatZ_iff (a b c d e f : Int) : greatZ a b c d e f = true ↔ (d < a ∨ (a = d ∧ (e < b ∨ (b = e ∧ f < c)))) := by
  unfold greatZ
  by_cases h : a = d
  · rw [if_pos h]
    by_cases k : b = e
    · rw [if_pos k, decide_eq_true_eq]; omega
    · rw [if_neg k, decide_eq_true_eq]; omega
  · rw [if_neg h, decide_eq_true_eq]; omega
theorem laterS_apart {s t : S6} (h : apartS s t) : laterS s t = greatZ s.tm s.o s.x t.tm t.o t.x := by unfold laterS; rw [if_neg h]
theorem laterS_total {s t : S6} (h : apartS s t) (hn : laterS s t = false) : laterS t s = true := by
  have h' : apartS t s := fun e => h ⟨e.1.symm, e.2.1.symm, e.2.2.symm⟩
  rw [laterS_apart h, ← Bool.not_eq_true, greatZ_iff] at hn
  rw [laterS_apart h', greatZ_iff]
  unfold apartS at h
  omega
theorem laterS_asym {s t : S6} (h : apartS s t) (hn : laterS s t = true) : laterS t s = false := by
  have h' : apartS t s := fun e => h ⟨e.1.symm, e.2.1.symm, e.2.2.symm⟩
  rw [laterS_apart h, greatZ_iff] at hn
  rw [laterS_apart h', ← Bool.not_eq_true, greatZ_iff]
  omega
theorem laterS_trans {s t u : S6} (h1 : apartS s t) (h2 : apartS t u) (h3 : apartS s u) (a : laterS s t = true) (b : laterS t u = true) : laterS s u = true := by
  rw [laterS_apart h1, greatZ_iff] at a
  rw [laterS_apart h2, greatZ_iff] at b
  rw [laterS_apart h3, greatZ_iff]
  omega

/-- The one that counts, if there is one; b: the one so far. -/
def bestS : Option S6 → List S6 → Option S6
  | b, [] => b
  | none, s :: l => bestS (some s) l
  | some t, s :: l => bestS (if laterS s t then some s else some t) l
/-- What a key has behind all versions of a list. -/
def valueA (key : List UInt8) (l : List S6) : V6 :=
  if key.headD 0 = 114 ∨ key.headD 0 = 116 then
    match bestS none (l.filter fun s => fitsA key s.a) with
    | none => V6.zero
    | some s => doneA V6.zero s.a
  else l.foldl (fun v s => afterA key v s.a) V6.zero

/-- The best of a list counts ahead of all others. -/
theorem bestS_some : ∀ (l : List S6) (t : S6), ∃ u, bestS (some t) l = some u ∧ u ∈ t :: l
  | [], t => ⟨t, rfl, by simp⟩
  | s :: l, t => by
    unfold bestS
    by_cases h : laterS s t = true
    · rw [if_pos h]
      obtain ⟨u, hu, hm⟩ := bestS_some l s
      exact ⟨u, hu, by rcases List.mem_cons.1 hm with rfl | hm <;> simp [*]⟩
    · rw [if_neg h]
      obtain ⟨u, hu, hm⟩ := bestS_some l t
      exact ⟨u, hu, by rcases List.mem_cons.1 hm with rfl | hm <;> simp [*]⟩
/-- Of versions with stamps of their own the best is the one ahead of all. -/
theorem bestS_is : ∀ (l : List S6) (t u : S6), (t :: l).Pairwise apartS → u ∈ t :: l → (∀ s ∈ t :: l, s = u ∨ laterS u s = true) → bestS (some t) l = some u
  | [], t, u, _, hu, _ => by
    have : u = t := by simpa using hu
    subst this
    rfl
  | s :: l, t, u, hp, hu, ha => by
    rw [List.pairwise_cons] at hp
    obtain ⟨hts, hp⟩ := hp
    have hst : apartS t s := hts s List.mem_cons_self
    have hst' : apartS s t := fun e => hst ⟨e.1.symm, e.2.1.symm, e.2.2.symm⟩
    unfold bestS
    by_cases h : laterS s t = true
    · rw [if_pos h]
      refine bestS_is l s u hp ?_ (fun x hx => ha x (List.mem_cons_of_mem _ hx))
      rcases List.mem_cons.1 hu with rfl | hu
      · rcases ha s (by simp) with e | e
        · rw [e]; simp
        · rw [laterS_asym hst' h] at e
          cases e
      · exact hu
    · have hf : laterS s t = false := by simpa using h
      rw [if_neg h]
      have hp2 : (t :: l).Pairwise apartS := List.pairwise_cons.2 ⟨fun x hx => hts x (List.mem_cons_of_mem _ hx), (List.pairwise_cons.1 hp).2⟩
      refine bestS_is l t u hp2 ?_ (fun x hx => ha x (by rcases List.mem_cons.1 hx with rfl | hx <;> simp [*]))
      rcases List.mem_cons.1 hu with rfl | hu
      · simp
      · rcases List.mem_cons.1 hu with rfl | hu
        · rcases ha t (by simp) with e | e
          · rw [← e]; simp
          · rw [hf] at e
            cases e
        · exact List.mem_cons_of_mem _ hu
/-- Of versions with stamps of their own one counts ahead of all. -/
theorem best_there : ∀ (l : List S6) (t : S6), (t :: l).Pairwise apartS → ∃ u, u ∈ t :: l ∧ ∀ s ∈ t :: l, s = u ∨ laterS u s = true
  | [], t, _ => ⟨t, by simp, fun s hs => Or.inl (by simpa using hs)⟩
  | s :: l, t, hp => by
    rw [List.pairwise_cons] at hp
    obtain ⟨hts, hp⟩ := hp
    obtain ⟨u, hu, ha⟩ := best_there l s hp
    have htu : apartS t u := hts u hu
    have hut : apartS u t := fun e => htu ⟨e.1.symm, e.2.1.symm, e.2.2.symm⟩
    by_cases h : laterS u t = true
    · refine ⟨u, List.mem_cons_of_mem _ hu, fun x hx => ?_⟩
      rcases List.mem_cons.1 hx with rfl | hx
      · exact Or.inr h
      · exact ha x hx
    · have hf : laterS u t = false := by simpa using h
      have ht := laterS_total hut hf
      refine ⟨t, by simp, fun x hx => ?_⟩
      rcases List.mem_cons.1 hx with rfl | hx
      · exact Or.inl rfl
      · right
        rcases ha x hx with rfl | hux
        · exact ht
        · by_cases hxu : x = u
          · rw [hxu]; exact ht
          · refine laterS_trans htu ?_ (hts x hx) ht hux
            intro e
            have h2 : laterS u x = lesserZ u.xs x.xs := by unfold laterS; rw [if_pos e]
            -- two of one list that are not apart are one
            have : ∀ (m : List S6), m.Pairwise apartS → ∀ a ∈ m, ∀ b ∈ m, a = b ∨ (apartS a b ∧ apartS b a) := by
              intro m hm
              induction m with
              | nil => intro a ha; simp at ha
              | cons c m ih =>
                rw [List.pairwise_cons] at hm
                intro a ha b hb
                rcases List.mem_cons.1 ha with rfl | ha2
                · rcases List.mem_cons.1 hb with rfl | hb
                  · exact Or.inl rfl
                  · exact Or.inr ⟨hm.1 b hb, fun e => hm.1 b hb ⟨e.1.symm, e.2.1.symm, e.2.2.symm⟩⟩
                · rcases List.mem_cons.1 hb with rfl | hb
                  · exact Or.inr ⟨fun e => hm.1 a ha2 ⟨e.1.symm, e.2.1.symm, e.2.2.symm⟩, hm.1 a ha2⟩
                  · exact ih hm.2 a ha2 b hb
            rcases this _ hp u hu x hx with e1 | e1
            · exact hxu e1.symm
            · exact e1.1 e
theorem apart_perm {l m : List S6} (h : l.Perm m) (hp : l.Pairwise apartS) : m.Pairwise apartS := by
  refine (h.pairwise_iff ?_).1 hp
  intro a b hab e
  exact hab ⟨e.1.symm, e.2.1.symm, e.2.2.symm⟩
/-- The order in which they stand doesn't matter. -/
theorem best_perm {l m : List S6} (h : l.Perm m) (hp : l.Pairwise apartS) : bestS none l = bestS none m := by
  cases l with
  | nil => rw [List.nil_perm.1 h]
  | cons t l =>
    cases m with
    | nil => exact absurd h.symm.nil_eq (by simp)
    | cons s m =>
      obtain ⟨u, hu, ha⟩ := best_there l t hp
      have h1 := bestS_is l t u hp hu ha
      have h2 := bestS_is m s u (apart_perm h hp) (h.mem_iff.1 hu) (fun x hx => ha x (h.mem_iff.2 hx))
      exact h1.trans h2.symm
theorem after_comm {key : List UInt8} (hr : key.headD 0 ≠ 114) (ht : key.headD 0 ≠ 116) (v : V6) (a b : A6) : afterA key (afterA key v a) b = afterA key (afterA key v b) a := by
  unfold afterA
  by_cases ha : fitsA key a = true
  · by_cases hb : fitsA key b = true
    · rw [ha, hb]
      simp only [if_true]
      rcases fits_cases ha with ⟨hc, _⟩ | ⟨hc, _⟩ | ⟨hc, h1, h2, h3⟩ | ⟨hc, h1, h2, h3⟩ | ⟨hc, h1, h2, h3⟩
      · exact absurd hc hr
      · exact absurd hc ht
      · rcases fits_cases hb with ⟨h', _⟩ | ⟨h', _⟩ | ⟨_, k1, k2, k3⟩ | ⟨h', _⟩ | ⟨h', _⟩
        · exact absurd h' hr
        · exact absurd h' ht
        · simp only [doneA, h1, k1]
          cases v.th
          · simp [Int.add_comm]
          · have e : wrap64 (wrap64 (v.it + a.it) + b.it) = wrap64 (wrap64 (v.it + b.it) + a.it) := by unfold wrap64; omega
            simp [e]
        all_goals (rw [hc] at h'; exact absurd h' (by decide))
      · rcases fits_cases hb with ⟨h', _⟩ | ⟨h', _⟩ | ⟨h', _⟩ | ⟨_, k1, k2, k3⟩ | ⟨h', _⟩
        · exact absurd h' hr
        · exact absurd h' ht
        · rw [hc] at h'; exact absurd h' (by decide)
        · simp only [doneA, h1, k1]
          cases v.th
          · simp [Nat.max_comm]
          · have e : max (max v.r a.r) b.r = max (max v.r b.r) a.r := by omega
            simp [e]
        · rw [hc] at h'; exact absurd h' (by decide)
      · rcases fits_cases hb with ⟨h', _⟩ | ⟨h', _⟩ | ⟨h', _⟩ | ⟨h', _⟩ | ⟨_, k1, k2, k3⟩
        · exact absurd h' hr
        · exact absurd h' ht
        · rw [hc] at h'; exact absurd h' (by decide)
        · rw [hc] at h'; exact absurd h' (by decide)
        · simp only [doneA, h1, k1]
          cases v.th
          · simp [Nat.min_comm]
          · have e : min (min v.r a.r) b.r = min (min v.r b.r) a.r := by omega
            simp [e]
    · have hb' : fitsA key b = false := by simpa using hb
      rw [ha, hb']
      simp
  · have ha' : fitsA key a = false := by simpa using ha
    rw [ha']
    simp
theorem value_perm {key : List UInt8} {l m : List S6} (h : l.Perm m) (hp : l.Pairwise apartS) : valueA key l = valueA key m := by
  unfold valueA
  split
  · rw [best_perm (h.filter _) (hp.filter _)]
  · next hn =>
    exact h.foldl_eq' (fun a _ b _ v => after_comm (fun e => hn (Or.inl e)) (fun e => hn (Or.inr e)) v a.a b.a) V6.zero
end Go.Proofs.YthacdegaeokgnaaDoor

namespace Go.Proofs.YthacdegaeokgnaaDoor
open Go.RowKit

theorem mostZ_step (xs : List Int) (k : Nat) (hk : k < xs.length) : mostZ (xs.take (k + 1)) = if k = 0 then xs.getD k 0 else if mostZ (xs.take k) < xs.getD k 0 then xs.getD k 0 else mostZ (xs.take k) := by
  cases xs with
  | nil => simp at hk
  | cons y l =>
    cases k with
    | zero => simp [mostZ]
    | succ m =>
      have hm : m < l.length := by simpa using hk
      rw [if_neg (by omega)]
      have e : (y :: l).getD (m + 1) 0 = l[m] := by rw [List.getD_eq_getElem?_getD, List.getElem?_cons_succ, List.getElem?_eq_getElem hm]; rfl
      rw [e]
      simp only [List.take_succ_cons, mostZ]
      rw [List.take_succ_eq_append_getElem hm, List.foldl_append]
      rfl

set_option maxRecDepth 100000 in
set_option maxHeartbeats 4000000 in
theorem rtimez_any (key : ByteArray) (A : Option Addr) (n c : Nat) (o x kd : Int) (nu : Nat) (it : Int) (tx : ByteArray) (xs : List Int) (w : World) (V : VerIn w key A n xs o x kd nu it tx) :
    Calls Tryd.prog 86 #[verV key A n c o x kd nu it tx] w fun e w' => e = .returned (.int .i64 (timeZ xs o)) ∧ Below w.heap.size w w' := by
  unfold verV
  have I := Lib.hid V.ints
  have hl := V.ints.len
  have hmx := V.ints.max
  have B0 : Blk (w.alloc (.cells #[.string key, .slice A n c, .int .i64 o, .int .i64 x, .int .i64 kd, .float .f64 nu, .int .i64 it, .string tx] 44)) w.heap.size 44 (verC key A n c o x kd nu it tx) := Blk.new w _ _
  have hb0 : Below w.heap.size w (w.alloc (.cells #[.string key, .slice A n c, .int .i64 o, .int .i64 x, .int .i64 kd, .float .f64 nu, .int .i64 it, .string tx] 44)) := (Below.refl _ w).alloc (Nat.le_refl _) _
  obtain ⟨d0, d1, d2, d3, d4, d5, d6, d7⟩ := ver_cells B0
  clear V
  by_cases ho : o = 254
  · subst ho
    have ht : timeZ xs 254 = mostZ xs := by unfold timeZ; rw [if_pos rfl]
    rw [ht]
    have hb0 := Lib.hid hb0
    clear B0 d0 d3 d4 d5 d6 d7 ht
    go_enter Tryd.func86, Tryd.ntmps86
    go_wp2_with fail
    generalize w.alloc (.cells #[.string key, .slice A n c, .int .i64 254, .int .i64 x, .int .i64 kd, .float .f64 nu, .int .i64 it, .string tx] 44) = w0 at *
    have J := Lib.hid (I.out.below hb0.out)
    go_loop [3, 4] (fun t i => ∃ k : Nat, k ≤ n ∧ i = .int .i64 (k : Int) ∧ t = .int .i64 (mostZ (xs.take k))) (fun _ i => n - (intOf i).toNat)
    case atStart => exact ⟨0, by omega, rfl, rfl⟩
    case round =>
      obtain ⟨k, hk, rfl, rfl⟩ := hrel
      by_cases hlt : k < n
      · obtain ⟨b, off, rfl, _, hc⟩ := J.out.some (by omega)
        have d := hc k hlt
        have st := Lib.hid (mostZ_step xs k (by omega))
        obtain ⟨y, hy⟩ : ∃ y, xs.getD k 0 = y := ⟨_, rfl⟩
        rw [hy] at d st
        have hl1 : (k : Int) < (n : Int) := by omega
        clear hc hy
        by_cases hk0 : k = 0
        · have hk1 : ((k : Int) == 0) = true := by rw [beq_iff_eq]; omega
          have st2 : Hid (mostZ (xs.take (k + 1)) = y) := st.out.trans (if_pos hk0)
          clear st hk0
          generalize mostZ (xs.take k) = m at *
          go_wp2_with fail
          go_round
          case rel => exact ⟨k + 1, by omega, by go_num, by rw [st2.out]⟩
          case measure => simp [intOf]; omega
        · have hk1 : ((k : Int) == 0) = false := by rw [beq_eq_false_iff_ne]; omega
          have st : Hid (mostZ (xs.take (k + 1)) = _) := st.out.trans (if_neg hk0)
          generalize mostZ (xs.take k) = m at *
          by_cases hm : m < y
          · have st2 : Hid (mostZ (xs.take (k + 1)) = y) := st.out.trans (if_pos hm)
            clear st
            go_wp2_with fail
            go_round
            case rel => exact ⟨k + 1, by omega, by go_num, by rw [st2.out]⟩
            case measure => simp [intOf]; omega
          · have st2 : Hid (mostZ (xs.take (k + 1)) = m) := st.out.trans (if_neg hm)
            clear st
            go_wp2_with fail
            go_round
            case rel => exact ⟨k + 1, by omega, by go_num, by rw [st2.out]⟩
            case measure => simp [intOf]; omega
      · have hl1 : ¬ (k : Int) < (n : Int) := by omega
        have e : xs.take k = xs := List.take_of_length_le (by omega)
        rw [e]
        clear e
        go_wp2_with fail
        go_ret
        exact ⟨rfl, hb0.out⟩
  · have ho' : (o == 254) = false := by rw [beq_eq_false_iff_ne]; exact ho
    by_cases h0 : 0 ≤ o
    · by_cases hon : o < (n : Int)
      · have ht : timeZ xs o = xs.getD o.toNat 0 := by unfold timeZ; rw [if_neg ho, if_pos ⟨h0, by omega⟩]
        rw [ht]
        obtain ⟨b, off, rfl, hbl, hc⟩ := I.out.some (by omega)
        have d := hc o.toNat (by omega)
        have d8 := (hb0.cell (p := ⟨b, off + o.toNat, none⟩) hbl).trans d
        obtain ⟨j, hj⟩ : ∃ j : Nat, o = (j : Int) := ⟨o.toNat, by omega⟩
        have hb0 := Lib.hid hb0
        clear B0 d0 d3 d4 d5 d6 d7 ht d hc ho
        subst hj
        rw [Int.toNat_natCast] at d8 ⊢
        go_enter Tryd.func86, Tryd.ntmps86
        go_wp2_with fail
        go_ret
        exact ⟨rfl, hb0.out⟩
      · have ht : timeZ xs o = 0 := by unfold timeZ; rw [if_neg ho, if_neg (by omega)]
        rw [ht]
        have hb0 := Lib.hid hb0
        clear B0 d0 d3 d4 d5 d6 d7 ht ho
        go_enter Tryd.func86, Tryd.ntmps86
        go_wp2_with fail
        go_ret
        exact ⟨rfl, hb0.out⟩
    · have ht : timeZ xs o = 0 := by unfold timeZ; rw [if_neg ho, if_neg (by omega)]
      rw [ht]
      have hb0 := Lib.hid hb0
      clear B0 d0 d3 d4 d5 d6 d7 ht ho
      go_enter Tryd.func86, Tryd.ntmps86
      go_wp2_with fail
      go_ret
      exact ⟨rfl, hb0.out⟩

theorem lessZ_step (xs ys : List Int) (k : Nat) (h1 : k < xs.length) (h2 : k < ys.length) : lessZ (xs.drop k) (ys.drop k) = if xs.getD k 0 = ys.getD k 0 then lessZ (xs.drop (k + 1)) (ys.drop (k + 1)) else decide (xs.getD k 0 < ys.getD k 0) := by
  have e1 : xs.getD k 0 = xs[k] := by rw [List.getD_eq_getElem?_getD, List.getElem?_eq_getElem h1]; rfl
  have e2 : ys.getD k 0 = ys[k] := by rw [List.getD_eq_getElem?_getD, List.getElem?_eq_getElem h2]; rfl
  rw [e1, e2, List.drop_eq_getElem_cons h1, List.drop_eq_getElem_cons h2]
  rfl

set_option maxRecDepth 100000 in
set_option maxHeartbeats 1000000 in
theorem rlesser_any (A1 : Option Addr) (n1 c1 : Nat) (xs : List Int) (A2 : Option Addr) (n2 c2 : Nat) (ys : List Int) (w : World) (I1 : IntsIn w A1 n1 xs) (I2 : IntsIn w A2 n2 ys) :
    Calls Tryd.prog 87 #[.slice A1 n1 c1, .slice A2 n2 c2] w fun e w' => e = .returned (.bool (lesserZ xs ys)) ∧ ∃ q, w' = w.drewN q := by
  have J1 := Lib.hid I1
  have J2 := Lib.hid I2
  have l1 := I1.len
  have l2 := I2.len
  have m1 := I1.max
  have m2 := I2.max
  clear I1 I2
  by_cases hne : n1 = n2
  · subst hne
    have hl : lesserZ xs ys = lessZ (xs.drop 0) (ys.drop 0) := by unfold lesserZ; rw [if_pos (by omega)]; rfl
    rw [hl]
    clear hl
    go_enter Tryd.func87, Tryd.ntmps87
    go_wp2_with fail
    go_loopw [5] (fun i wr => ∃ k q : Nat, k ≤ n1 ∧ i = .int .i64 (k : Int) ∧ Hid (wr = w.drewN q) ∧ Hid (lessZ (xs.drop 0) (ys.drop 0) = lessZ (xs.drop k) (ys.drop k))) (fun i _ => n1 - (intOf i).toNat)
    case atStart => exact ⟨0, 0, by omega, rfl, rfl, rfl⟩
    case round =>
      obtain ⟨k, q, hk, rfl, Hw, Hle⟩ := hrel
      by_cases hl : k < n1
      · have K1 := J1.out.drewN q
        have K2 := J2.out.drewN q
        rw [← Hw.out] at K1 K2
        obtain ⟨b1, o1, rfl, _, hc1⟩ := K1.some (by omega)
        obtain ⟨b2, o2, rfl, _, hc2⟩ := K2.some (by omega)
        have d1 := hc1 k hl
        have d2 := hc2 k hl
        have st := Hle.out.trans (lessZ_step xs ys k (by omega) (by omega))
        obtain ⟨x, hx⟩ : ∃ x, xs.getD k 0 = x := ⟨_, rfl⟩
        obtain ⟨y, hy⟩ : ∃ y, ys.getD k 0 = y := ⟨_, rfl⟩
        rw [hx] at d1 st
        rw [hy] at d2 st
        have st := Lib.hid st
        have hl1 : (k : Int) < (n1 : Int) := by omega
        clear hc1 hc2 hx hy K1 K2
        by_cases hg : x = y
        · have hg' : (x == y) = true := by simp [hg]
          have st2 : Hid (lessZ (xs.drop 0) (ys.drop 0) = lessZ (xs.drop (k + 1)) (ys.drop (k + 1))) := st.out.trans (if_pos hg)
          clear st hg
          go_wp2_with fail
          go_quiet (fail)
          go_wp2_with fail
          go_roundw
          case rel => exact ⟨k + 1, _, by omega, by go_num, (by rw [Hw.out, World.drewN_drewN]; rfl), st2⟩
          case measure => simp [intOf]; omega
        · have hg' : (x == y) = false := by simp [hg]
          have st2 : Hid (lessZ (xs.drop 0) (ys.drop 0) = decide (x < y)) := st.out.trans (if_neg hg)
          clear st hg
          go_wp2_with fail
          go_quiet (fail)
          go_wp2_with fail
          go_quiet (fail)
          go_wp2_with fail
          go_ret
          refine ⟨by rw [st2.out]; rfl, ?_⟩
          rw [Hw.out, World.drewN_drewN, World.drewN_drewN]
          exact ⟨_, rfl⟩
      · obtain rfl : k = n1 := by omega
        go_wp2_with fail
        have e : lessZ (xs.drop k) (ys.drop k) = false := by
          rw [List.drop_eq_nil_of_le (by omega)]
          rfl
        rw [Hle.out, e]
        go_ret
        exact ⟨rfl, _, Hw.out⟩
  · have hl : lesserZ xs ys = decide (n1 < n2) := by
      unfold lesserZ
      rw [if_neg (by omega), l1, l2]
    rw [hl]
    go_enter Tryd.func87, Tryd.ntmps87
    go_wp2_with fail
    go_ret
    exact ⟨rfl, 0, rfl⟩

set_option maxRecDepth 100000 in
set_option maxHeartbeats 1000000 in
theorem rgreater_any (a b c d e f : Int) (w : World) :
    Calls Tryd.prog 88 #[.int .i64 a, .int .i64 b, .int .i64 c, .int .i64 d, .int .i64 e, .int .i64 f] w fun x w' => x = .returned (.bool (greatZ a b c d e f)) ∧ w' = w := by
  unfold greatZ
  by_cases h : a = d
  · rw [if_pos h]
    have h' : (a == d) = true := by simp [h]
    clear h
    by_cases k : b = e
    · rw [if_pos k]
      have k' : (b == e) = true := by simp [k]
      clear k
      go_enter Tryd.func88, Tryd.ntmps88
      go_wp2_with fail
      go_ret
      exact ⟨rfl, rfl⟩
    · rw [if_neg k]
      have k' : (b == e) = false := by simp [k]
      clear k
      go_enter Tryd.func88, Tryd.ntmps88
      go_wp2_with fail
      go_ret
      exact ⟨rfl, rfl⟩
  · rw [if_neg h]
    have h' : (a == d) = false := by simp [h]
    clear h
    go_enter Tryd.func88, Tryd.ntmps88
    go_wp2_with fail
    go_ret
    exact ⟨rfl, rfl⟩
end Go.Proofs.YthacdegaeokgnaaDoor

namespace Go.Proofs.YthacdegaeokgnaaDoor
open Go.RowKit

/-- What stands while two versions are held against each other: both, and all that was there. -/
structure Ord6 (w : World) (ka : ByteArray) (Aa : Option Addr) (na ca : Nat) (oa xa kda : Int) (nua : Nat) (ita : Int) (txa : ByteArray) (kb : ByteArray) (Ab : Option Addr) (nb cb : Nat) (ob xb kdb : Int) (nub : Nat) (itb : Int) (txb : ByteArray) (W : World) : Prop where
  a : Blk W w.heap.size 44 (verC ka Aa na ca oa xa kda nua ita txa)
  b : Blk W (w.heap.size + 1) 44 (verC kb Ab nb cb ob xb kdb nub itb txb)
  below : Below w.heap.size w W
section
variable {w W : World} {ka kb : ByteArray} {Aa Ab : Option Addr} {na ca nb cb : Nat} {oa xa kda ob xb kdb : Int} {nua nub : Nat} {ita itb : Int} {txa txb : ByteArray} {xsa xsb : List Int}
theorem Ord6.on {W' : World} (h : Ord6 w ka Aa na ca oa xa kda nua ita txa kb Ab nb cb ob xb kdb nub itb txb W) (hb : Below W.heap.size W W') : Ord6 w ka Aa na ca oa xa kda nua ita txa kb Ab nb cb ob xb kdb nub itb txb W' :=
  ⟨h.a.below hb h.a.lt, h.b.below hb h.b.lt, h.below.trans (hb.mono h.below.size)⟩
theorem Ord6.drew (h : Ord6 w ka Aa na ca oa xa kda nua ita txa kb Ab nb cb ob xb kdb nub itb txb W) : Ord6 w ka Aa na ca oa xa kda nua ita txa kb Ab nb cb ob xb kdb nub itb txb W.drew := ⟨h.a, h.b, h.below.drew⟩
end
theorem later_same {s t : S6} (h1 : s.tm = t.tm) (h2 : s.o = t.o) (h3 : s.x = t.x) : laterS s t = lesserZ s.xs t.xs := by unfold laterS; rw [if_pos ⟨h1, h2, h3⟩]

set_option maxRecDepth 100000 in
set_option maxHeartbeats 8000000 in
theorem rlater_any (ka : ByteArray) (Aa : Option Addr) (na ca : Nat) (oa xa kda : Int) (nua : Nat) (ita : Int) (txa : ByteArray) (xsa : List Int) (kb : ByteArray) (Ab : Option Addr) (nb cb : Nat) (ob xb kdb : Int) (nub : Nat) (itb : Int) (txb : ByteArray) (xsb : List Int) (w : World) (Va : VerIn w ka Aa na xsa oa xa kda nua ita txa) (Vb : VerIn w kb Ab nb xsb ob xb kdb nub itb txb) :
    Calls Tryd.prog 60 #[verV ka Aa na ca oa xa kda nua ita txa, verV kb Ab nb cb ob xb kdb nub itb txb] w fun e w' => e = .returned (.bool (laterS (S6.mk (a6 kda nua ita txa) (timeZ xsa oa) oa xa xsa) (S6.mk (a6 kdb nub itb txb) (timeZ xsb ob) ob xb xsb))) ∧ Below w.heap.size w w' := by
  unfold verV
  have S0 : Ord6 w ka Aa na ca oa xa kda nua ita txa kb Ab nb cb ob xb kdb nub itb txb ((w.alloc (.cells #[.string ka, .slice Aa na ca, .int .i64 oa, .int .i64 xa, .int .i64 kda, .float .f64 nua, .int .i64 ita, .string txa] 44)).alloc (.cells #[.string kb, .slice Ab nb cb, .int .i64 ob, .int .i64 xb, .int .i64 kdb, .float .f64 nub, .int .i64 itb, .string txb] 44)) := ⟨(Blk.new w _ _).alloc _, Blk.new' (by simp) _ _, ((Below.refl _ w).alloc (Nat.le_refl _) _).alloc (by simp) _⟩
  have TA : ∀ W, Ord6 w ka Aa na ca oa xa kda nua ita txa kb Ab nb cb ob xb kdb nub itb txb W → Hid (Calls Tryd.prog 86 #[verV ka Aa na ca oa xa kda nua ita txa] W fun e w' => e = .returned (.int .i64 (timeZ xsa oa)) ∧ Ord6 w ka Aa na ca oa xa kda nua ita txa kb Ab nb cb ob xb kdb nub itb txb w') := fun W hW => (rtimez_any ka Aa na ca oa xa kda nua ita txa xsa W (Va.below hW.below)).mono fun _ _ ⟨he, hb⟩ => ⟨he, hW.on hb⟩
  have TB : ∀ W, Ord6 w ka Aa na ca oa xa kda nua ita txa kb Ab nb cb ob xb kdb nub itb txb W → Hid (Calls Tryd.prog 86 #[verV kb Ab nb cb ob xb kdb nub itb txb] W fun e w' => e = .returned (.int .i64 (timeZ xsb ob)) ∧ Ord6 w ka Aa na ca oa xa kda nua ita txa kb Ab nb cb ob xb kdb nub itb txb w') := fun W hW => (rtimez_any kb Ab nb cb ob xb kdb nub itb txb xsb W (Vb.below hW.below)).mono fun _ _ ⟨he, hb⟩ => ⟨he, hW.on hb⟩
  have LE : ∀ W, Ord6 w ka Aa na ca oa xa kda nua ita txa kb Ab nb cb ob xb kdb nub itb txb W → Hid (Calls Tryd.prog 87 #[.slice Aa na ca, .slice Ab nb cb] W fun e w' => e = .returned (.bool (lesserZ xsa xsb)) ∧ ∃ q, w' = W.drewN q) := fun W hW => rlesser_any Aa na ca xsa Ab nb cb xsb W (Va.ints.below hW.below) (Vb.ints.below hW.below)
  have GR : ∀ W, Ord6 w ka Aa na ca oa xa kda nua ita txa kb Ab nb cb ob xb kdb nub itb txb W → Hid (Calls Tryd.prog 88 #[.int .i64 (timeZ xsa oa), .int .i64 oa, .int .i64 xa, .int .i64 (timeZ xsb ob), .int .i64 ob, .int .i64 xb] W fun e w' => e = .returned (.bool (greatZ (timeZ xsa oa) oa xa (timeZ xsb ob) ob xb)) ∧ Ord6 w ka Aa na ca oa xa kda nua ita txa kb Ab nb cb ob xb kdb nub itb txb w') := fun W hW => (rgreater_any _ _ _ _ _ _ W).mono fun _ _ ⟨he, hb⟩ => ⟨he, hb ▸ hW⟩
  simp only [verV] at TA TB
  clear Va Vb
  have hL : laterS (S6.mk (a6 kda nua ita txa) (timeZ xsa oa) oa xa xsa) (S6.mk (a6 kdb nub itb txb) (timeZ xsb ob) ob xb xsb) = if timeZ xsa oa = timeZ xsb ob ∧ oa = ob ∧ xa = xb then lesserZ xsa xsb else greatZ (timeZ xsa oa) oa xa (timeZ xsb ob) ob xb := rfl
  rw [hL]
  clear hL
  generalize timeZ xsa oa = ta at *
  generalize timeZ xsb ob = tb at *
  generalize lesserZ xsa xsb = le at *
  by_cases h1 : ta = tb
  · have e1 : (ta == tb) = true := by rw [beq_iff_eq]; exact h1
    by_cases h2 : oa = ob
    · have e2 : (oa == ob) = true := by rw [beq_iff_eq]; exact h2
      by_cases h3 : xa = xb
      · have e3 : (xa == xb) = true := by rw [beq_iff_eq]; exact h3
        rw [if_pos ⟨h1, h2, h3⟩]
        clear h1 h2 h3 GR
        go_enter Tryd.func60, Tryd.ntmps60
        go_wp2_with fail
        generalize (w.alloc (.cells #[.string ka, .slice Aa na ca, .int .i64 oa, .int .i64 xa, .int .i64 kda, .float .f64 nua, .int .i64 ita, .string txa] 44)).alloc (.cells #[.string kb, .slice Ab nb cb, .int .i64 ob, .int .i64 xb, .int .i64 kdb, .float .f64 nub, .int .i64 itb, .string txb] 44) = w0 at S0 ⊢
        have S2 := S0
        clear S0
        refine wp_region_class (fun W => Ord6 w ka Aa na ca oa xa kda nua ita txa kb Ab nb cb ob xb kdb nub itb txb W) (by kernel_rfl) (by kernel_rfl) S2.drew ?_
        clear S2
        repeat' (first
          | (refine wpQuiet_skip (by rfl) ?_; try simp only [Act.put, List.setIfInBounds_toArray, List.set_cons_zero, List.set_cons_succ])
          | (refine wpQuiet_take (by rfl) ?_ (fun W hW => ?_) ?_
             rotate_left
             focus
               obtain ⟨a0, a1, a2, a3, a4, a5, a6, a7⟩ := ver_cells (Ord6.a hW)
               obtain ⟨b0, b1, b2, b3, b4, b5, b6, b7⟩ := ver_cells (Ord6.b hW)
               go_simp
               first
                 | done
                 | with_reducible rfl
                 | (go_at_call_of 86 (Value.string txa); exact (TA _ hW).out)
                 | (go_at_call_of 86 (Value.string txb); exact (TB _ hW).out)
                 | (go_at_call 86; exact (TA _ hW).out)
                 | (go_at_call 86; exact (TB _ hW).out)
             try simp only [Act.put, List.setIfInBounds_toArray, List.set_cons_zero, List.set_cons_succ]))
        refine wpQuiet_nil (fun w5 S2 => ?_)
        obtain ⟨a0, a1, a2, a3, a4, a5, a6, a7⟩ := ver_cells (Ord6.a S2)
        obtain ⟨b0, b1, b2, b3, b4, b5, b6, b7⟩ := ver_cells (Ord6.b S2)
        have S2 := Lib.hid S2
        go_wp2_with fail
        refine (LE _ S2.out).out.mono ?_
        rintro e w6 ⟨rfl, q, rfl⟩
        go_wp2_with fail
        go_ret
        exact ⟨rfl, below_drewN (Ord6.below S2.out) q⟩
      · have e3 : (xa == xb) = false := by rw [beq_eq_false_iff_ne]; exact h3
        rw [if_neg (fun h => h3 h.2.2)]
        clear h1 h2 h3 LE
        generalize greatZ ta oa xa tb ob xb = gr at *
        go_enter Tryd.func60, Tryd.ntmps60
        go_wp2_with fail
        generalize (w.alloc (.cells #[.string ka, .slice Aa na ca, .int .i64 oa, .int .i64 xa, .int .i64 kda, .float .f64 nua, .int .i64 ita, .string txa] 44)).alloc (.cells #[.string kb, .slice Ab nb cb, .int .i64 ob, .int .i64 xb, .int .i64 kdb, .float .f64 nub, .int .i64 itb, .string txb] 44) = w0 at S0 ⊢
        have S2 := S0
        clear S0
        refine wp_region_class (fun W => Ord6 w ka Aa na ca oa xa kda nua ita txa kb Ab nb cb ob xb kdb nub itb txb W) (by kernel_rfl) (by kernel_rfl) S2.drew ?_
        clear S2
        repeat' (first
          | (refine wpQuiet_skip (by rfl) ?_; try simp only [Act.put, List.setIfInBounds_toArray, List.set_cons_zero, List.set_cons_succ])
          | (refine wpQuiet_take (by rfl) ?_ (fun W hW => ?_) ?_
             rotate_left
             focus
               obtain ⟨a0, a1, a2, a3, a4, a5, a6, a7⟩ := ver_cells (Ord6.a hW)
               obtain ⟨b0, b1, b2, b3, b4, b5, b6, b7⟩ := ver_cells (Ord6.b hW)
               go_simp
               first
                 | done
                 | with_reducible rfl
                 | (go_at_call_of 86 (Value.string txa); exact (TA _ hW).out)
                 | (go_at_call_of 86 (Value.string txb); exact (TB _ hW).out)
                 | (go_at_call 86; exact (TA _ hW).out)
                 | (go_at_call 86; exact (TB _ hW).out)
             try simp only [Act.put, List.setIfInBounds_toArray, List.set_cons_zero, List.set_cons_succ]))
        refine wpQuiet_nil (fun w5 S2 => ?_)
        obtain ⟨a0, a1, a2, a3, a4, a5, a6, a7⟩ := ver_cells (Ord6.a S2)
        obtain ⟨b0, b1, b2, b3, b4, b5, b6, b7⟩ := ver_cells (Ord6.b S2)
        clear a0 a1 a2 a3 a4 a5 a6 a7 b0 b1 b2 b3 b4 b5 b6 b7
        go_wp2_with fail
        refine wp_region_class (fun W => Ord6 w ka Aa na ca oa xa kda nua ita txa kb Ab nb cb ob xb kdb nub itb txb W) (by kernel_rfl) (by kernel_rfl) S2.drew ?_
        clear S2
        repeat' (first
          | (refine wpQuiet_skip (by rfl) ?_; try simp only [Act.put, List.setIfInBounds_toArray, List.set_cons_zero, List.set_cons_succ])
          | (refine wpQuiet_take (by rfl) ?_ (fun W hW => ?_) ?_
             rotate_left
             focus
               obtain ⟨a0, a1, a2, a3, a4, a5, a6, a7⟩ := ver_cells (Ord6.a hW)
               obtain ⟨b0, b1, b2, b3, b4, b5, b6, b7⟩ := ver_cells (Ord6.b hW)
               go_simp
               first
                 | done
                 | with_reducible rfl
                 | (go_at_call_of 86 (Value.string txa); exact (TA _ hW).out)
                 | (go_at_call_of 86 (Value.string txb); exact (TB _ hW).out)
                 | (go_at_call 86; exact (TA _ hW).out)
                 | (go_at_call 86; exact (TB _ hW).out)
                 | (go_at_call 88; exact (GR _ hW).out)
             try simp only [Act.put, List.setIfInBounds_toArray, List.set_cons_zero, List.set_cons_succ]))
        refine wpQuiet_nil (fun w5 S2 => ?_)
        go_wp2_with fail
        go_ret
        exact ⟨rfl, Ord6.below S2⟩
    · have e2 : (oa == ob) = false := by rw [beq_eq_false_iff_ne]; exact h2
      rw [if_neg (fun h => h2 h.2.1)]
      clear h1 h2 LE
      generalize greatZ ta oa xa tb ob xb = gr at *
      go_enter Tryd.func60, Tryd.ntmps60
      go_wp2_with fail
      generalize (w.alloc (.cells #[.string ka, .slice Aa na ca, .int .i64 oa, .int .i64 xa, .int .i64 kda, .float .f64 nua, .int .i64 ita, .string txa] 44)).alloc (.cells #[.string kb, .slice Ab nb cb, .int .i64 ob, .int .i64 xb, .int .i64 kdb, .float .f64 nub, .int .i64 itb, .string txb] 44) = w0 at S0 ⊢
      have S2 := S0
      clear S0
      refine wp_region_class (fun W => Ord6 w ka Aa na ca oa xa kda nua ita txa kb Ab nb cb ob xb kdb nub itb txb W) (by kernel_rfl) (by kernel_rfl) S2.drew ?_
      clear S2
      repeat' (first
        | (refine wpQuiet_skip (by rfl) ?_; try simp only [Act.put, List.setIfInBounds_toArray, List.set_cons_zero, List.set_cons_succ])
        | (refine wpQuiet_take (by rfl) ?_ (fun W hW => ?_) ?_
           rotate_left
           focus
             obtain ⟨a0, a1, a2, a3, a4, a5, a6, a7⟩ := ver_cells (Ord6.a hW)
             obtain ⟨b0, b1, b2, b3, b4, b5, b6, b7⟩ := ver_cells (Ord6.b hW)
             go_simp
             first
               | done
               | with_reducible rfl
               | (go_at_call_of 86 (Value.string txa); exact (TA _ hW).out)
               | (go_at_call_of 86 (Value.string txb); exact (TB _ hW).out)
               | (go_at_call 86; exact (TA _ hW).out)
               | (go_at_call 86; exact (TB _ hW).out)
           try simp only [Act.put, List.setIfInBounds_toArray, List.set_cons_zero, List.set_cons_succ]))
      refine wpQuiet_nil (fun w5 S2 => ?_)
      obtain ⟨a0, a1, a2, a3, a4, a5, a6, a7⟩ := ver_cells (Ord6.a S2)
      obtain ⟨b0, b1, b2, b3, b4, b5, b6, b7⟩ := ver_cells (Ord6.b S2)
      clear a0 a1 a2 a3 a4 a5 a6 a7 b0 b1 b2 b3 b4 b5 b6 b7
      go_wp2_with fail
      refine wp_region_class (fun W => Ord6 w ka Aa na ca oa xa kda nua ita txa kb Ab nb cb ob xb kdb nub itb txb W) (by kernel_rfl) (by kernel_rfl) S2.drew ?_
      clear S2
      repeat' (first
        | (refine wpQuiet_skip (by rfl) ?_; try simp only [Act.put, List.setIfInBounds_toArray, List.set_cons_zero, List.set_cons_succ])
        | (refine wpQuiet_take (by rfl) ?_ (fun W hW => ?_) ?_
           rotate_left
           focus
             obtain ⟨a0, a1, a2, a3, a4, a5, a6, a7⟩ := ver_cells (Ord6.a hW)
             obtain ⟨b0, b1, b2, b3, b4, b5, b6, b7⟩ := ver_cells (Ord6.b hW)
             go_simp
             first
               | done
               | with_reducible rfl
               | (go_at_call_of 86 (Value.string txa); exact (TA _ hW).out)
               | (go_at_call_of 86 (Value.string txb); exact (TB _ hW).out)
               | (go_at_call 86; exact (TA _ hW).out)
               | (go_at_call 86; exact (TB _ hW).out)
               | (go_at_call 88; exact (GR _ hW).out)
           try simp only [Act.put, List.setIfInBounds_toArray, List.set_cons_zero, List.set_cons_succ]))
      refine wpQuiet_nil (fun w5 S2 => ?_)
      go_wp2_with fail
      go_ret
      exact ⟨rfl, Ord6.below S2⟩
  · have e1 : (ta == tb) = false := by rw [beq_eq_false_iff_ne]; exact h1
    rw [if_neg (fun h => h1 h.1)]
    clear h1 LE
    generalize greatZ ta oa xa tb ob xb = gr at *
    go_enter Tryd.func60, Tryd.ntmps60
    go_wp2_with fail
    generalize (w.alloc (.cells #[.string ka, .slice Aa na ca, .int .i64 oa, .int .i64 xa, .int .i64 kda, .float .f64 nua, .int .i64 ita, .string txa] 44)).alloc (.cells #[.string kb, .slice Ab nb cb, .int .i64 ob, .int .i64 xb, .int .i64 kdb, .float .f64 nub, .int .i64 itb, .string txb] 44) = w0 at S0 ⊢
    have S2 := S0
    clear S0
    refine wp_region_class (fun W => Ord6 w ka Aa na ca oa xa kda nua ita txa kb Ab nb cb ob xb kdb nub itb txb W) (by kernel_rfl) (by kernel_rfl) S2.drew ?_
    clear S2
    repeat' (first
      | (refine wpQuiet_skip (by rfl) ?_; try simp only [Act.put, List.setIfInBounds_toArray, List.set_cons_zero, List.set_cons_succ])
      | (refine wpQuiet_take (by rfl) ?_ (fun W hW => ?_) ?_
         rotate_left
         focus
           obtain ⟨a0, a1, a2, a3, a4, a5, a6, a7⟩ := ver_cells (Ord6.a hW)
           obtain ⟨b0, b1, b2, b3, b4, b5, b6, b7⟩ := ver_cells (Ord6.b hW)
           go_simp
           first
             | done
             | with_reducible rfl
             | (go_at_call_of 86 (Value.string txa); exact (TA _ hW).out)
             | (go_at_call_of 86 (Value.string txb); exact (TB _ hW).out)
             | (go_at_call 86; exact (TA _ hW).out)
             | (go_at_call 86; exact (TB _ hW).out)
         try simp only [Act.put, List.setIfInBounds_toArray, List.set_cons_zero, List.set_cons_succ]))
    refine wpQuiet_nil (fun w5 S2 => ?_)
    obtain ⟨a0, a1, a2, a3, a4, a5, a6, a7⟩ := ver_cells (Ord6.a S2)
    obtain ⟨b0, b1, b2, b3, b4, b5, b6, b7⟩ := ver_cells (Ord6.b S2)
    clear a0 a1 a2 a3 a4 a5 a6 a7 b0 b1 b2 b3 b4 b5 b6 b7
    go_wp2_with fail
    refine wp_region_class (fun W => Ord6 w ka Aa na ca oa xa kda nua ita txa kb Ab nb cb ob xb kdb nub itb txb W) (by kernel_rfl) (by kernel_rfl) S2.drew ?_
    clear S2
    repeat' (first
      | (refine wpQuiet_skip (by rfl) ?_; try simp only [Act.put, List.setIfInBounds_toArray, List.set_cons_zero, List.set_cons_succ])
      | (refine wpQuiet_take (by rfl) ?_ (fun W hW => ?_) ?_
         rotate_left
         focus
           obtain ⟨a0, a1, a2, a3, a4, a5, a6, a7⟩ := ver_cells (Ord6.a hW)
           obtain ⟨b0, b1, b2, b3, b4, b5, b6, b7⟩ := ver_cells (Ord6.b hW)
           go_simp
           first
             | done
             | with_reducible rfl
             | (go_at_call_of 86 (Value.string txa); exact (TA _ hW).out)
             | (go_at_call_of 86 (Value.string txb); exact (TB _ hW).out)
             | (go_at_call 86; exact (TA _ hW).out)
             | (go_at_call 86; exact (TB _ hW).out)
             | (go_at_call 88; exact (GR _ hW).out)
         try simp only [Act.put, List.setIfInBounds_toArray, List.set_cons_zero, List.set_cons_succ]))
    refine wpQuiet_nil (fun w5 S2 => ?_)
    go_wp2_with fail
    go_ret
    exact ⟨rfl, Ord6.below S2⟩
end Go.Proofs.YthacdegaeokgnaaDoor

namespace Go.Proofs.YthacdegaeokgnaaDoor
open Go.RowKit

/-- The time that passes, within its bounds. -/
def CapIs (n z : Int) : Prop := (n < 0 ∧ z = 0) ∨ (0 ≤ n ∧ n ≤ 281474976710656 ∧ z = n) ∨ (281474976710656 < n ∧ z = 281474976710656)
theorem capIs (n : Int) : CapIs n (capN n : Int) := by
  unfold CapIs capN
  split
  · exact Or.inl ⟨by omega, rfl⟩
  · split
    · exact Or.inr (Or.inr ⟨by omega, rfl⟩)
    · exact Or.inr (Or.inl ⟨by omega, by omega, by omega⟩)
theorem capN_le (n : Int) : capN n ≤ 281474976710656 := by
  unfold capN
  split
  · omega
  · split <;> omega

end Go.Proofs.YthacdegaeokgnaaDoor

namespace Go.Proofs.YthacdegaeokgnaaDoor
open Go.RowKit

theorem run_min48 (n : Int) (W : World) : (Builtin.min_ #[3, 3] 3 #[.int .i64 n, .int .i64 281474976710655]).run Tryd.prog W = .ok (.int .i64 (if 281474976710655 < n then 281474976710655 else n)) W := by
  simp [Builtin.min_, Builtin.min2]
theorem run_max (n m : Int) (W : World) : (Builtin.max_ #[3, 3] 3 #[.int .i64 n, .int .i64 m]).run Tryd.prog W = .ok (.int .i64 (if n < m then m else n)) W := by
  simp [Builtin.max_, Builtin.max2]

theorem run_put_f64 (W : World) (ad : Addr) (v : Nat) : (store ad (.float .f64 v)).run Tryd.prog W = stored Tryd.prog W ad (.float .f64 v) .plain := run_store _ W ad _ _ rfl

/-- How far a clock has gone, n later. -/
def tickN (t : Int) (n : Int) (f : Nat) : Int := if 281474976710655 < t + (scaleN (capN n) f : Int) then 281474976710655 else t + (scaleN (capN n) f : Int)
theorem tickN_bd {t : Int} (n : Int) (f : Nat) (h0 : 0 ≤ t) : 0 ≤ tickN t n f ∧ tickN t n f ≤ 281474976710655 := by
  unfold tickN
  split <;> omega
theorem tickN_up {t : Int} (n : Int) (f : Nat) (h1 : t ≤ 281474976710655) : t ≤ tickN t n f := by
  unfold tickN
  split <;> omega

/-- The cells of a clock. -/
def clk (t l : Int) (f : Nat) : Array Value := #[.int .i64 t, .int .i64 l, .float .f64 f]

/-- The time that is given out: none at the end. -/
def nextN (t l a : Int) : Option Int := if 281474976710655 ≤ (if l < a then a else l) then none else some (if t < (if l < a then a else l) + 1 then (if l < a then a else l) + 1 else t)

/-- The last time, behind one that was seen. -/
def seenN (l a : Int) : Int := if 281474976710655 < a then l else if l < a then a else l

/-! ### A nil clock -/
/-! ### Greater -/
/-- Is the stamp (a, b, c) behind (d, e, f)? -/
def greaterN (a b c d e f : Int) : Bool := if a = d then (if b = e then decide (f < c) else decide (e < b)) else decide (d < a)

set_option maxRecDepth 100000 in
set_option maxHeartbeats 1000000 in
theorem sgreater_any (a b c d e f : Int) (w : World) :
    Calls Tryd.prog 99 #[.int .i64 a, .int .i64 b, .int .i64 c, .int .i64 d, .int .i64 e, .int .i64 f] w fun x w' => x = .returned (.bool (greaterN a b c d e f)) ∧ w' = w := by
  unfold greaterN
  by_cases h : a = d
  · rw [if_pos h]
    have h' : (a == d) = true := by simp [h]
    clear h
    by_cases k : b = e
    · rw [if_pos k]
      have k' : (b == e) = true := by simp [k]
      clear k
      go_enter Tryd.func99, Tryd.ntmps99
      go_wp2_with fail
      go_ret
      exact ⟨rfl, rfl⟩
    · rw [if_neg k]
      have k' : (b == e) = false := by simp [k]
      clear k
      go_enter Tryd.func99, Tryd.ntmps99
      go_wp2_with fail
      go_ret
      exact ⟨rfl, rfl⟩
  · rw [if_neg h]
    have h' : (a == d) = false := by simp [h]
    clear h
    go_enter Tryd.func99, Tryd.ntmps99
    go_wp2_with fail
    go_ret
    exact ⟨rfl, rfl⟩
end Go.Proofs.YthacdegaeokgnaaDoor

namespace Go.Proofs.YthacdegaeokgnaaDoor
open Go.RowKit

theorem mostZ_one {xs : List Int} (h : 0 < xs.length) : xs.getD 0 0 = mostZ (xs.take 1) := by
  have := mostZ_step xs 0 h
  rw [this, if_pos rfl]

set_option maxRecDepth 100000 in
set_option maxHeartbeats 4000000 in
theorem lmax_any (A : Option Addr) (n c : Nat) (xs : List Int) (w : World) (V : IntsIn w A n xs) (hp : 0 < n) :
    Calls Tryd.prog 105 #[.slice A n c] w fun e w' => e = .returned (.int .i64 (mostZ xs)) ∧ w' = w := by
  have I := Lib.hid V
  have hl := V.len
  have hmx := V.max
  have h1 := Lib.hid (mostZ_one (xs := xs) (by omega))
  obtain ⟨b, off, rfl, _, hc⟩ := I.out.some (by omega)
  have d0 := hc 0 (by omega)
  rw [h1.out, Nat.add_zero] at d0
  clear V
  have e1 : ¬ (n : Int) < 1 := by omega
  go_enter Tryd.func105, Tryd.ntmps105
  go_wp2_with fail
  clear d0 hc
  go_loop [3, 4] (fun t i => ∃ k : Nat, 1 ≤ k ∧ k ≤ n ∧ i = .int .i64 (k : Int) ∧ t = .int .i64 (mostZ (xs.take k))) (fun _ i => n - (intOf i).toNat)
  case atStart => exact ⟨1, by omega, by omega, rfl, rfl⟩
  case round =>
    obtain ⟨k, hk1, hk, rfl, rfl⟩ := hrel
    by_cases hlt : k < n
    · obtain ⟨b', off', hbb, _, hc⟩ := I.out.some (by omega)
      cases hbb
      have d := hc k hlt
      have st := Lib.hid ((mostZ_step xs k (by omega)).trans (if_neg (by omega)))
      obtain ⟨y, hy⟩ : ∃ y, xs.getD k 0 = y := ⟨_, rfl⟩
      rw [hy] at d st
      have hl1 : (k : Int) < (n : Int) := by omega
      clear hc hy
      generalize mostZ (xs.take k) = m at *
      have hmax := run_max5 m y
      rw [← st.out] at hmax
      clear st
      go_wp2_with fail
      go_round
      case rel => exact ⟨k + 1, by omega, by omega, by go_num, rfl⟩
      case measure => simp [intOf]; omega
    · have hl1 : ¬ (k : Int) < (n : Int) := by omega
      have e : xs.take k = xs := List.take_of_length_le (by omega)
      rw [e]
      clear e
      go_wp2_with fail
      go_ret
      exact ⟨rfl, rfl⟩

set_option maxRecDepth 100000 in
set_option maxHeartbeats 4000000 in
theorem ltimez_any (key : ByteArray) (A : Option Addr) (n c : Nat) (o x kd : Int) (nu : Nat) (it : Int) (tx : ByteArray) (xs : List Int) (w : World) (V : VerIn w key A n xs o x kd nu it tx) :
    Calls Tryd.prog 98 #[verV key A n c o x kd nu it tx] w fun e w' => e = .returned (.int .i64 (timeZ xs o)) ∧ Below w.heap.size w w' := by
  unfold verV
  have I := Lib.hid V.ints
  have hl := V.ints.len
  have hmx := V.ints.max
  have B0 : Blk (w.alloc (.cells #[.string key, .slice A n c, .int .i64 o, .int .i64 x, .int .i64 kd, .float .f64 nu, .int .i64 it, .string tx] 44)) w.heap.size 44 (verC key A n c o x kd nu it tx) := Blk.new w _ _
  have hb0 : Below w.heap.size w (w.alloc (.cells #[.string key, .slice A n c, .int .i64 o, .int .i64 x, .int .i64 kd, .float .f64 nu, .int .i64 it, .string tx] 44)) := (Below.refl _ w).alloc (Nat.le_refl _) _
  obtain ⟨d0, d1, d2, d3, d4, d5, d6, d7⟩ := ver_cells B0
  clear V
  by_cases ho : o = 254 ∧ 0 < n
  · obtain ⟨rfl, hp⟩ := ho
    have ht : timeZ xs 254 = mostZ xs := by unfold timeZ; rw [if_pos rfl]
    rw [ht]
    have M := Lib.hid (lmax_any A n c xs _ (I.out.below hb0) hp)
    have hb0 := Lib.hid hb0
    have hp' : (0 : Int) < (n : Int) := by omega
    clear B0 d0 d3 d4 d5 d6 d7 ht hp
    go_enter Tryd.func98, Tryd.ntmps98
    go_wp2_with fail
    refine M.out.mono ?_
    rintro e w' ⟨rfl, rfl⟩
    go_wp2_with fail
    go_ret
    exact ⟨rfl, hb0.out⟩
  · have hno : Hid (((o == 254) = false) ∨ ((o == 254) = true ∧ o = 254 ∧ ¬ (0 : Int) < (n : Int))) := by
      by_cases h : o = 254
      · exact Or.inr ⟨by rw [beq_iff_eq]; exact h, h, by omega⟩
      · exact Or.inl (by rw [beq_eq_false_iff_ne]; exact h)
    by_cases h0 : 0 ≤ o
    · by_cases hon : o < (n : Int)
      · have ho2 : o ≠ 254 := fun h => ho ⟨h, by omega⟩
        have ho' : (o == 254) = false := by rw [beq_eq_false_iff_ne]; exact ho2
        have ht : timeZ xs o = xs.getD o.toNat 0 := by unfold timeZ; rw [if_neg ho2, if_pos ⟨h0, by omega⟩]
        rw [ht]
        obtain ⟨b, off, rfl, hbl, hc⟩ := I.out.some (by omega)
        have d := hc o.toNat (by omega)
        have d8 := (hb0.cell (p := ⟨b, off + o.toNat, none⟩) hbl).trans d
        obtain ⟨j, hj⟩ : ∃ j : Nat, o = (j : Int) := ⟨o.toNat, by omega⟩
        have hb0 := Lib.hid hb0
        clear B0 d0 d3 d4 d5 d6 d7 ht d hc ho hno ho2
        subst hj
        rw [Int.toNat_natCast] at d8 ⊢
        go_enter Tryd.func98, Tryd.ntmps98
        go_wp2_with fail
        go_ret
        exact ⟨rfl, hb0.out⟩
      · have ht : timeZ xs o = 0 := by
          unfold timeZ
          by_cases h : o = 254
          · have : xs = [] := List.eq_nil_of_length_eq_zero (by omega)
            rw [if_pos h, this]; rfl
          · rw [if_neg h, if_neg (by omega)]
        rw [ht]
        have hb0 := Lib.hid hb0
        clear B0 d0 d3 d4 d5 d6 d7 ht ho
        rcases hno.out with e1 | ⟨e1, rfl, e2⟩
        all_goals
          go_enter Tryd.func98, Tryd.ntmps98
          go_wp2_with fail
          go_ret
          exact ⟨rfl, hb0.out⟩
    · have ho2 : o ≠ 254 := by omega
      have ho' : (o == 254) = false := by rw [beq_eq_false_iff_ne]; exact ho2
      have ht : timeZ xs o = 0 := by unfold timeZ; rw [if_neg ho2, if_neg (by omega)]
      rw [ht]
      have hb0 := Lib.hid hb0
      clear B0 d0 d3 d4 d5 d6 d7 ht ho hno
      go_enter Tryd.func98, Tryd.ntmps98
      go_wp2_with fail
      go_ret
      exact ⟨rfl, hb0.out⟩

set_option maxRecDepth 100000 in
set_option maxHeartbeats 1000000 in
theorem lcompare_any (A1 : Option Addr) (n c1 : Nat) (xs : List Int) (A2 : Option Addr) (c2 : Nat) (ys : List Int) (w : World) (I1 : IntsIn w A1 n xs) (I2 : IntsIn w A2 n ys) :
    Calls Tryd.prog 100 #[.slice A1 n c1, .slice A2 n c2] w fun e w' => (∃ r : Int, e = .returned (.int .i64 r) ∧ decide (r < 0) = lessZ xs ys) ∧ w' = w := by
  have J1 := Lib.hid I1
  have J2 := Lib.hid I2
  have l1 := I1.len
  have l2 := I2.len
  have m1 := I1.max
  clear I1 I2
  obtain ⟨L, hL⟩ : ∃ L, Hid (lessZ xs ys = L) := ⟨_, rfl⟩
  rw [hL.out]
  have H0 : Hid (L = lessZ (xs.drop 0) (ys.drop 0)) := hL.out.symm
  clear hL
  go_enter Tryd.func100, Tryd.ntmps100
  go_wp2_with fail
  go_loop [11] (fun i => ∃ k : Nat, k ≤ n ∧ i = .int .i64 (k : Int) ∧ Hid (L = lessZ (xs.drop k) (ys.drop k))) (fun i => n - (intOf i).toNat)
  case atStart => exact ⟨0, by omega, rfl, H0⟩
  case round =>
    obtain ⟨k, hk, rfl, Hle⟩ := hrel
    by_cases hl : k < n
    · obtain ⟨b1, o1, rfl, _, hc1⟩ := J1.out.some (by omega)
      obtain ⟨b2, o2, rfl, _, hc2⟩ := J2.out.some (by omega)
      have d1 := hc1 k hl
      have d2 := hc2 k hl
      have st := Hle.out.trans (lessZ_step xs ys k (by omega) (by omega))
      obtain ⟨x, hx⟩ : ∃ x, xs.getD k 0 = x := ⟨_, rfl⟩
      obtain ⟨y, hy⟩ : ∃ y, ys.getD k 0 = y := ⟨_, rfl⟩
      rw [hx] at d1 st
      rw [hy] at d2 st
      have st := Lib.hid st
      have hl1 : (k : Int) < (n : Int) := by omega
      have hl2 : ¬ (n : Int) ≤ (k : Int) := by omega
      have C := fun W => Lib.hid (Tryd.cmp_Compare_int x y W)
      obtain ⟨r, hr⟩ : ∃ r, Lib.compareInt x y = r := ⟨_, rfl⟩
      rw [hr] at C
      have HR := Lib.hid hr
      clear hc1 hc2 hx hy hr
      by_cases hg : x = y
      · have st2 : Hid (L = lessZ (xs.drop (k + 1)) (ys.drop (k + 1))) := st.out.trans (if_pos hg)
        have hr0 : r = 0 := by rw [← HR.out]; unfold Lib.compareInt; rw [if_neg (by omega), if_neg (by omega)]
        clear st hg HR
        subst hr0
        go_wp2_with fail
        refine (C _).out.mono ?_
        rintro e w1 ⟨rfl, rfl⟩
        go_wp2_with fail
        go_round
        case rel => exact ⟨k + 1, by omega, by go_num, st2⟩
        case measure => simp [intOf]; omega
      · have st2 : Hid (L = decide (x < y)) := st.out.trans (if_neg hg)
        have hr0 : (r != 0) = true ∧ decide (r < 0) = decide (x < y) := by
          rw [← HR.out]
          unfold Lib.compareInt
          by_cases h : x < y
          · rw [if_pos h, decide_eq_true h]; exact ⟨rfl, rfl⟩
          · rw [if_neg h, if_pos (by omega), decide_eq_false h]; exact ⟨rfl, rfl⟩
        have hr1 := hr0.1
        have hr2 := Lib.hid hr0.2
        clear st hg HR hr0
        go_wp2_with fail
        refine (C _).out.mono ?_
        rintro e w1 ⟨rfl, rfl⟩
        go_wp2_with fail
        go_ret
        exact ⟨⟨r, rfl, hr2.out.trans st2.out.symm⟩, rfl⟩
    · obtain rfl : k = n := by omega
      have e : Hid (L = false) := by
        rw [List.drop_eq_nil_of_le (by omega)] at Hle
        exact Hle.out
      clear Hle
      go_wp2_with fail
      go_ret
      exact ⟨⟨0, rfl, by rw [e.out]; rfl⟩, rfl⟩

set_option maxRecDepth 100000 in
set_option maxHeartbeats 4000000 in
theorem llater_any (ka : ByteArray) (Aa : Option Addr) (na ca : Nat) (oa xa kda : Int) (nua : Nat) (ita : Int) (txa : ByteArray) (xsa : List Int) (kb : ByteArray) (Ab : Option Addr) (nb cb : Nat) (ob xb kdb : Int) (nub : Nat) (itb : Int) (txb : ByteArray) (xsb : List Int) (w : World) (Va : VerIn w ka Aa na xsa oa xa kda nua ita txa) (Vb : VerIn w kb Ab nb xsb ob xb kdb nub itb txb) :
    Calls Tryd.prog 85 #[verV ka Aa na ca oa xa kda nua ita txa, verV kb Ab nb cb ob xb kdb nub itb txb] w fun e w' => e = .returned (.bool (laterS ⟨a6 kda nua ita txa, timeZ xsa oa, oa, xa, xsa⟩ ⟨a6 kdb nub itb txb, timeZ xsb ob, ob, xb, xsb⟩)) ∧ Below w.heap.size w w' := by
  unfold verV
  have S0 : Ord6 w ka Aa na ca oa xa kda nua ita txa kb Ab nb cb ob xb kdb nub itb txb ((w.alloc (.cells #[.string ka, .slice Aa na ca, .int .i64 oa, .int .i64 xa, .int .i64 kda, .float .f64 nua, .int .i64 ita, .string txa] 44)).alloc (.cells #[.string kb, .slice Ab nb cb, .int .i64 ob, .int .i64 xb, .int .i64 kdb, .float .f64 nub, .int .i64 itb, .string txb] 44)) := ⟨(Blk.new w _ _).alloc _, Blk.new' (by simp) _ _, ((Below.refl _ w).alloc (Nat.le_refl _) _).alloc (by simp) _⟩
  have TA : ∀ W, Ord6 w ka Aa na ca oa xa kda nua ita txa kb Ab nb cb ob xb kdb nub itb txb W → Hid _ := fun W hW => ((ltimez_any ka Aa na ca oa xa kda nua ita txa xsa W (Va.below hW.below)).mono fun e w' ⟨he, hb⟩ => (⟨he, hW.on hb⟩ : _ ∧ Ord6 w ka Aa na ca oa xa kda nua ita txa kb Ab nb cb ob xb kdb nub itb txb w'))
  have TB : ∀ W, Ord6 w ka Aa na ca oa xa kda nua ita txa kb Ab nb cb ob xb kdb nub itb txb W → Hid _ := fun W hW => ((ltimez_any kb Ab nb cb ob xb kdb nub itb txb xsb W (Vb.below hW.below)).mono fun e w' ⟨he, hb⟩ => (⟨he, hW.on hb⟩ : _ ∧ Ord6 w ka Aa na ca oa xa kda nua ita txa kb Ab nb cb ob xb kdb nub itb txb w'))
  have CM := fun W (h : na = nb) (hW : Ord6 w ka Aa na ca oa xa kda nua ita txa kb Ab nb cb ob xb kdb nub itb txb W) => Lib.hid (lcompare_any Aa na ca xsa Ab cb xsb W (Va.ints.below hW.below) (by rw [h]; exact Vb.ints.below hW.below))
  have la := Va.ints.len
  have lb := Vb.ints.len
  simp only [verV] at TA TB
  clear Va Vb
  have hL : laterS (S6.mk (a6 kda nua ita txa) (timeZ xsa oa) oa xa xsa) (S6.mk (a6 kdb nub itb txb) (timeZ xsb ob) ob xb xsb) = if timeZ xsa oa = timeZ xsb ob ∧ oa = ob ∧ xa = xb then lesserZ xsa xsb else greatZ (timeZ xsa oa) oa xa (timeZ xsb ob) ob xb := rfl
  rw [hL]
  clear hL
  have G1 := fun W => Lib.hid (sgreater_any (timeZ xsa oa) oa xa (timeZ xsb ob) ob xb W)
  have G2 := fun W => Lib.hid (sgreater_any (timeZ xsb ob) ob xb (timeZ xsa oa) oa xa W)
  have g1 : greaterN (timeZ xsa oa) oa xa (timeZ xsb ob) ob xb = greatZ (timeZ xsa oa) oa xa (timeZ xsb ob) ob xb := rfl
  have g2 : greaterN (timeZ xsb ob) ob xb (timeZ xsa oa) oa xa = greatZ (timeZ xsb ob) ob xb (timeZ xsa oa) oa xa := rfl
  rw [g1] at G1
  rw [g2] at G2
  clear g1 g2
  generalize timeZ xsa oa = ta at *
  generalize timeZ xsb ob = tb at *
  obtain ⟨q1, h1⟩ : ∃ q, greatZ ta oa xa tb ob xb = q := ⟨_, rfl⟩
  obtain ⟨q2, h2⟩ : ∃ q, greatZ tb ob xb ta oa xa = q := ⟨_, rfl⟩
  rw [h1] at G1
  rw [h2] at G2
  obtain ⟨R, hR⟩ : ∃ R, Hid ((if ta = tb ∧ oa = ob ∧ xa = xb then lesserZ xsa xsb else greatZ ta oa xa tb ob xb) = R) := ⟨_, rfl⟩
  rw [hR.out]
  have F1 : Hid (q1 = true → R = true) := by
    intro h
    rw [← hR.out]
    rw [h, greatZ_iff] at h1
    rw [if_neg (by omega), greatZ_iff]
    exact h1
  have F2 : Hid (q1 = false → q2 = true → R = false) := by
    intro h h'
    rw [← hR.out]
    rw [h', greatZ_iff] at h2
    rw [if_neg (by omega), h1]
    exact h
  have F3 : Hid (q1 = false → q2 = false → R = lesserZ xsa xsb) := by
    intro h h'
    rw [← hR.out]
    rw [h, ← Bool.not_eq_true, greatZ_iff] at h1
    rw [h', ← Bool.not_eq_true, greatZ_iff] at h2
    rw [if_pos (by omega)]
  clear h1 h2 hR
  cases q1
  · cases q2
    · have E : Hid (R = lesserZ xsa xsb) := F3.out rfl rfl
      clear F1 F2 F3
      by_cases hn : na = nb
      · have hn' : ((na : Int) != (nb : Int)) = false := by rw [bne_eq_false_iff_eq]; omega
        have E2 : Hid (R = lessZ xsa xsb) := E.out.trans (by unfold lesserZ; rw [if_pos (by omega)])
        subst hn
        clear E
        go_enter Tryd.func85, Tryd.ntmps85
        go_wp2_with fail
        generalize (w.alloc (.cells #[.string ka, .slice Aa na ca, .int .i64 oa, .int .i64 xa, .int .i64 kda, .float .f64 nua, .int .i64 ita, .string txa] 44)).alloc (.cells #[.string kb, .slice Ab na cb, .int .i64 ob, .int .i64 xb, .int .i64 kdb, .float .f64 nub, .int .i64 itb, .string txb] 44) = w0 at S0 ⊢
        refine wp_region_class (fun W => Ord6 w ka Aa na ca oa xa kda nua ita txa kb Ab na cb ob xb kdb nub itb txb W) (by kernel_rfl) (by kernel_rfl) S0.drew ?_
        clear S0
        repeat' (first
          | (refine wpQuiet_skip (by rfl) ?_; try simp only [Act.put, List.setIfInBounds_toArray, List.set_cons_zero, List.set_cons_succ])
          | (refine wpQuiet_take (by rfl) ?_ (fun W hW => ?_) ?_
             rotate_left
             focus
               obtain ⟨a0, a1, a2, a3, a4, a5, a6, a7⟩ := ver_cells (Ord6.a hW)
               obtain ⟨b0, b1, b2, b3, b4, b5, b6, b7⟩ := ver_cells (Ord6.b hW)
               go_simp
               first
                 | done
                 | with_reducible rfl
                 | (go_at_call_of 98 (Value.string txa); exact (TA _ hW).out)
                 | (go_at_call_of 98 (Value.string txb); exact (TB _ hW).out)
                 | (go_at_call 98; exact (TA _ hW).out)
                 | (go_at_call 98; exact (TB _ hW).out)
             try simp only [Act.put, List.setIfInBounds_toArray, List.set_cons_zero, List.set_cons_succ]))
        refine wpQuiet_nil (fun w5 S2 => ?_)
        obtain ⟨a0, a1, a2, a3, a4, a5, a6, a7⟩ := ver_cells (Ord6.a S2)
        obtain ⟨b0, b1, b2, b3, b4, b5, b6, b7⟩ := ver_cells (Ord6.b S2)
        have S2 := Lib.hid S2
        clear TA TB
        go_wp2_with fail
        refine (G1 _).out.mono ?_
        rintro e w6 ⟨rfl, rfl⟩
        go_wp2_with fail
        refine (G2 _).out.mono ?_
        rintro e w6 ⟨rfl, rfl⟩
        go_wp2_with fail
        refine (CM _ (by trivial) S2.out).out.mono ?_
        rintro e w7 ⟨⟨r, rfl, hr⟩, rfl⟩
        have HR := Lib.hid hr
        clear hr
        go_wp2_with fail
        go_ret
        exact ⟨by rw [E2.out, ← HR.out]; rfl, Ord6.below S2.out⟩
      · have hn' : ((na : Int) != (nb : Int)) = true := by rw [bne_iff_ne]; omega
        have E2 : Hid (R = decide (na < nb)) := E.out.trans (by
          unfold lesserZ
          rw [if_neg (by omega), la, lb])
        clear E CM hn
        go_enter Tryd.func85, Tryd.ntmps85
        go_wp2_with fail
        generalize (w.alloc (.cells #[.string ka, .slice Aa na ca, .int .i64 oa, .int .i64 xa, .int .i64 kda, .float .f64 nua, .int .i64 ita, .string txa] 44)).alloc (.cells #[.string kb, .slice Ab nb cb, .int .i64 ob, .int .i64 xb, .int .i64 kdb, .float .f64 nub, .int .i64 itb, .string txb] 44) = w0 at S0 ⊢
        refine wp_region_class (fun W => Ord6 w ka Aa na ca oa xa kda nua ita txa kb Ab nb cb ob xb kdb nub itb txb W) (by kernel_rfl) (by kernel_rfl) S0.drew ?_
        clear S0
        repeat' (first
          | (refine wpQuiet_skip (by rfl) ?_; try simp only [Act.put, List.setIfInBounds_toArray, List.set_cons_zero, List.set_cons_succ])
          | (refine wpQuiet_take (by rfl) ?_ (fun W hW => ?_) ?_
             rotate_left
             focus
               obtain ⟨a0, a1, a2, a3, a4, a5, a6, a7⟩ := ver_cells (Ord6.a hW)
               obtain ⟨b0, b1, b2, b3, b4, b5, b6, b7⟩ := ver_cells (Ord6.b hW)
               go_simp
               first
                 | done
                 | with_reducible rfl
                 | (go_at_call_of 98 (Value.string txa); exact (TA _ hW).out)
                 | (go_at_call_of 98 (Value.string txb); exact (TB _ hW).out)
                 | (go_at_call 98; exact (TA _ hW).out)
                 | (go_at_call 98; exact (TB _ hW).out)
             try simp only [Act.put, List.setIfInBounds_toArray, List.set_cons_zero, List.set_cons_succ]))
        refine wpQuiet_nil (fun w5 S2 => ?_)
        obtain ⟨a0, a1, a2, a3, a4, a5, a6, a7⟩ := ver_cells (Ord6.a S2)
        obtain ⟨b0, b1, b2, b3, b4, b5, b6, b7⟩ := ver_cells (Ord6.b S2)
        have S2 := Lib.hid S2
        clear TA TB
        go_wp2_with fail
        refine (G1 _).out.mono ?_
        rintro e w6 ⟨rfl, rfl⟩
        go_wp2_with fail
        refine (G2 _).out.mono ?_
        rintro e w6 ⟨rfl, rfl⟩
        go_wp2_with fail
        go_ret
        exact ⟨by rw [E2.out]; rfl, Ord6.below S2.out⟩
    · have E : Hid (R = false) := F2.out rfl rfl
      clear F1 F2 F3 CM
      go_enter Tryd.func85, Tryd.ntmps85
      go_wp2_with fail
      generalize (w.alloc (.cells #[.string ka, .slice Aa na ca, .int .i64 oa, .int .i64 xa, .int .i64 kda, .float .f64 nua, .int .i64 ita, .string txa] 44)).alloc (.cells #[.string kb, .slice Ab nb cb, .int .i64 ob, .int .i64 xb, .int .i64 kdb, .float .f64 nub, .int .i64 itb, .string txb] 44) = w0 at S0 ⊢
      refine wp_region_class (fun W => Ord6 w ka Aa na ca oa xa kda nua ita txa kb Ab nb cb ob xb kdb nub itb txb W) (by kernel_rfl) (by kernel_rfl) S0.drew ?_
      clear S0
      repeat' (first
        | (refine wpQuiet_skip (by rfl) ?_; try simp only [Act.put, List.setIfInBounds_toArray, List.set_cons_zero, List.set_cons_succ])
        | (refine wpQuiet_take (by rfl) ?_ (fun W hW => ?_) ?_
           rotate_left
           focus
             obtain ⟨a0, a1, a2, a3, a4, a5, a6, a7⟩ := ver_cells (Ord6.a hW)
             obtain ⟨b0, b1, b2, b3, b4, b5, b6, b7⟩ := ver_cells (Ord6.b hW)
             go_simp
             first
               | done
               | with_reducible rfl
               | (go_at_call_of 98 (Value.string txa); exact (TA _ hW).out)
               | (go_at_call_of 98 (Value.string txb); exact (TB _ hW).out)
               | (go_at_call 98; exact (TA _ hW).out)
               | (go_at_call 98; exact (TB _ hW).out)
           try simp only [Act.put, List.setIfInBounds_toArray, List.set_cons_zero, List.set_cons_succ]))
      refine wpQuiet_nil (fun w5 S2 => ?_)
      obtain ⟨a0, a1, a2, a3, a4, a5, a6, a7⟩ := ver_cells (Ord6.a S2)
      obtain ⟨b0, b1, b2, b3, b4, b5, b6, b7⟩ := ver_cells (Ord6.b S2)
      have S2 := Lib.hid S2
      clear TA TB
      go_wp2_with fail
      refine (G1 _).out.mono ?_
      rintro e w6 ⟨rfl, rfl⟩
      go_wp2_with fail
      refine (G2 _).out.mono ?_
      rintro e w6 ⟨rfl, rfl⟩
      go_wp2_with fail
      go_ret
      exact ⟨by rw [E.out]; rfl, Ord6.below S2.out⟩
  · have E : Hid (R = true) := F1.out rfl
    clear F1 F2 F3 CM G2
    go_enter Tryd.func85, Tryd.ntmps85
    go_wp2_with fail
    generalize (w.alloc (.cells #[.string ka, .slice Aa na ca, .int .i64 oa, .int .i64 xa, .int .i64 kda, .float .f64 nua, .int .i64 ita, .string txa] 44)).alloc (.cells #[.string kb, .slice Ab nb cb, .int .i64 ob, .int .i64 xb, .int .i64 kdb, .float .f64 nub, .int .i64 itb, .string txb] 44) = w0 at S0 ⊢
    refine wp_region_class (fun W => Ord6 w ka Aa na ca oa xa kda nua ita txa kb Ab nb cb ob xb kdb nub itb txb W) (by kernel_rfl) (by kernel_rfl) S0.drew ?_
    clear S0
    repeat' (first
      | (refine wpQuiet_skip (by rfl) ?_; try simp only [Act.put, List.setIfInBounds_toArray, List.set_cons_zero, List.set_cons_succ])
      | (refine wpQuiet_take (by rfl) ?_ (fun W hW => ?_) ?_
         rotate_left
         focus
           obtain ⟨a0, a1, a2, a3, a4, a5, a6, a7⟩ := ver_cells (Ord6.a hW)
           obtain ⟨b0, b1, b2, b3, b4, b5, b6, b7⟩ := ver_cells (Ord6.b hW)
           go_simp
           first
             | done
             | with_reducible rfl
             | (go_at_call_of 98 (Value.string txa); exact (TA _ hW).out)
             | (go_at_call_of 98 (Value.string txb); exact (TB _ hW).out)
             | (go_at_call 98; exact (TA _ hW).out)
             | (go_at_call 98; exact (TB _ hW).out)
         try simp only [Act.put, List.setIfInBounds_toArray, List.set_cons_zero, List.set_cons_succ]))
    refine wpQuiet_nil (fun w5 S2 => ?_)
    obtain ⟨a0, a1, a2, a3, a4, a5, a6, a7⟩ := ver_cells (Ord6.a S2)
    obtain ⟨b0, b1, b2, b3, b4, b5, b6, b7⟩ := ver_cells (Ord6.b S2)
    have S2 := Lib.hid S2
    clear TA TB
    go_wp2_with fail
    refine (G1 _).out.mono ?_
    rintro e w6 ⟨rfl, rfl⟩
    go_wp2_with fail
    go_ret
    exact ⟨by rw [E.out]; rfl, Ord6.below S2.out⟩
end Go.Proofs.YthacdegaeokgnaaDoor

namespace Go.Proofs.YthacdegaeokgnaaDoor
open Go.RowKit Go.WideShapes Go.ChangeShapes Go.Deep

/-- A version that came in. -/
structure VerR where
  key : ByteArray
  A : Option Addr
  n : Nat
  c : Nat
  o : Int
  x : Int
  kd : Int
  nu : Nat
  it : Int
  tx : ByteArray
  xs : List Int

/-- Its cells. -/
def VerR.cells (r : VerR) : List Value := [.string r.key, .slice r.A r.n r.c, .int .i64 r.o, .int .i64 r.x, .int .i64 r.kd, .float .f64 r.nu, .int .i64 r.it, .string r.tx]
def VerR.val (r : VerR) : Value := verV r.key r.A r.n r.c r.o r.x r.kd r.nu r.it r.tx
abbrev VerR.in_ (r : VerR) (w : World) : Prop := VerIn w r.key r.A r.n r.xs r.o r.x r.kd r.nu r.it r.tx
/-- No version. -/
def VerR.zero : VerR := ⟨ByteArray.empty, none, 0, 0, 0, 0, 0, 0, 0, ByteArray.empty, []⟩
instance : Inhabited VerR := ⟨VerR.zero⟩

/-- n versions stand at A. -/
structure VersIn (w : World) (A : Option Addr) (n : Nat) (vs : List VerR) : Prop where
  len : vs.length = n
  max : n ≤ 9223372036854775807
  some : 0 < n → ∃ b off, A = .some ⟨b, off, none⟩ ∧ b < w.heap.size ∧ ∀ j, j < n → ∀ k, k < 8 → w.cell? ⟨b, off + j * 8 + k, none⟩ = (vs.getD j VerR.zero).cells[k]?
  each : ∀ j, j < n → (vs.getD j VerR.zero).in_ w

theorem VersIn.below {w w' : World} {A : Option Addr} {n : Nat} {vs : List VerR} (h : VersIn w A n vs) (hb : Below w.heap.size w w') : VersIn w' A n vs :=
  ⟨h.len, h.max, fun hn => by
    obtain ⟨b, off, rfl, hlt, hc⟩ := h.some hn
    exact ⟨b, off, rfl, Nat.lt_of_lt_of_le hlt hb.size, fun j hj k hk => (hb.cell (p := ⟨b, off + j * 8 + k, none⟩) hlt).trans (hc j hj k hk)⟩, fun j hj => (h.each j hj).below hb⟩
/-- The cells of one of them. -/
theorem VersIn.at_ {w : World} {b off n : Nat} {vs : List VerR} (hc : ∀ j, j < n → ∀ k, k < 8 → w.cell? ⟨b, off + j * 8 + k, none⟩ = (vs.getD j VerR.zero).cells[k]?) {j : Nat} (hj : j < n) {r : VerR} (hr : vs.getD j VerR.zero = r) :
    w.cell? ⟨b, off + j * 8, none⟩ = .some (.string r.key) ∧ w.cell? ⟨b, off + j * 8 + 1, none⟩ = .some (.slice r.A r.n r.c) ∧ w.cell? ⟨b, off + j * 8 + 2, none⟩ = .some (.int .i64 r.o) ∧ w.cell? ⟨b, off + j * 8 + 3, none⟩ = .some (.int .i64 r.x) ∧
    w.cell? ⟨b, off + j * 8 + 4, none⟩ = .some (.int .i64 r.kd) ∧ w.cell? ⟨b, off + j * 8 + 5, none⟩ = .some (.float .f64 r.nu) ∧ w.cell? ⟨b, off + j * 8 + 6, none⟩ = .some (.int .i64 r.it) ∧ w.cell? ⟨b, off + j * 8 + 7, none⟩ = .some (.string r.tx) := by
  have h := hc j hj
  rw [hr] at h
  exact ⟨h 0 (by decide), h 1 (by decide), h 2 (by decide), h 3 (by decide), h 4 (by decide), h 5 (by decide), h 6 (by decide), h 7 (by decide)⟩

theorem list8 {α : Type} {l : List α} (h : l.length = 8) : ∃ c0 c1 c2 c3 c4 c5 c6 c7, l = [c0, c1, c2, c3, c4, c5, c6, c7] := by
  match l, h with
  | [c0, c1, c2, c3, c4, c5, c6, c7], _ => exact ⟨c0, c1, c2, c3, c4, c5, c6, c7, rfl⟩

section
variable {H : Type} {enc : TypeId × Value → H} {P : Program} {w : World} {t e s : TypeId} {f0 f1 f2 f3 f4 g0 g1 g2 g3 : Field}
/-- One version, out of its cells. -/
theorem ver_trod {fuel : Nat} {cs : List Value} {z : DataW H × List MemPlace} (ht : P.underlying t = some (.struct #[f0, f1, f2, f3, f4])) (hta : P.underlying f4.type = some (.struct #[g0, g1, g2, g3]))
    (offs : [f0.offset, f1.offset, f2.offset, f3.offset, f4.offset, g0.offset, g1.offset, g2.offset, g3.offset] = [0, 1, 2, 3, 4, 0, 1, 2, 3])
    (cells : [f0.type, f1.type, f2.type, f3.type, f4.type, g0.type, g1.type, g2.type, g3.type].map P.cellsOf = [1, 1, 1, 1, 4, 1, 1, 1, 1]) (ce : P.cellsOf e = 1)
    (u0 : P.underlying f0.type = some .string) (u1 : P.underlying f1.type = some (.slice e)) (ue : P.underlying e = some (.int .i64)) (u2 : P.underlying f2.type = some (.int .i64)) (u3 : P.underlying f3.type = some (.int .i64))
    (k0 : P.underlying g0.type = some (.int .i64)) (k1 : P.underlying g1.type = some (.float .f64)) (k2 : P.underlying g2.type = some (.int .i64)) (k3 : P.underlying g3.type = some .string)
    (hl : cs.length = 8) (h : DataW.trod enc P w 0 (fun _ => true) true fuel t cs = some z) :
    ∃ r : VerR, cs = r.cells ∧ r.in_ w := by
  simp only [List.cons.injEq, and_true, List.map_cons, List.map_nil] at offs cells
  obtain ⟨o0, o1, o2, o3, o4, q0, q1, q2, q3⟩ := offs
  obtain ⟨c0, c1, c2, c3, c4, d0, d1, d2, d3⟩ := cells
  obtain ⟨a0, a1, a2, a3, a4, a5, a6, a7, rfl⟩ := list8 hl
  obtain ⟨ys, m, _, _, _, hlen, hg⟩ := DataW.trod_struct ht h
  match ys, hlen, hg with
  | [y0, y1, y2, y3, y4], _, hg =>
    have h0 := hg 0 f0 rfl
    have h1 := hg 1 f1 rfl
    have h2 := hg 2 f2 rfl
    have h3 := hg 3 f3 rfl
    have h4 := hg 4 f4 rfl
    simp [o0, o1, o2, o3, o4, c0, c1, c2, c3, c4] at h0 h1 h2 h3 h4
    obtain ⟨key, e0, _, s0⟩ := DataW.trod_string u0 h0
    obtain ⟨o, e2, _, w2⟩ := DataW.trod_int u2 h2
    obtain ⟨x, e3, _, w3⟩ := DataW.trod_int u3 h3
    obtain ⟨A, n, c, e1⟩ : ∃ A n c, a1 = .slice A n c := by
      rcases DataW.trod_slice u1 h1 with ⟨hs, _⟩ | ⟨a, len, cap, _, _, _, _, hs, _⟩
      · exact ⟨none, 0, 0, by simpa using hs⟩
      · exact ⟨some a, len, cap, by simpa using hs⟩
    simp at e0 e2 e3
    subst e0 e1 e2 e3
    obtain ⟨xs, hI⟩ := ints_view (d := y1.1) (p := y1.2) u1 ue ce ⟨m, by simpa [Value.cells] using h1⟩
    obtain ⟨zs, l, _, _, _, hlen2, hk⟩ := DataW.trod_struct hta h4
    match zs, hlen2, hk with
    | [z0, z1, z2, z3], _, hk =>
      have t0 := hk 0 g0 rfl
      have t1 := hk 1 g1 rfl
      have t2 := hk 2 g2 rfl
      have t3 := hk 3 g3 rfl
      simp [q0, q1, q2, q3, d0, d1, d2, d3] at t0 t1 t2 t3
      obtain ⟨kd, r0, _, v0⟩ := DataW.trod_int k0 t0
      obtain ⟨nu, r1, _, v1⟩ := trod_float_ k1 t1
      obtain ⟨it, r2, _, v2⟩ := DataW.trod_int k2 t2
      obtain ⟨tx, r3, _, v3⟩ := DataW.trod_string k3 t3
      simp at r0 r1 r2 r3
      subst r0 r1 r2 r3
      unfold maxLen at s0 v3
      exact ⟨⟨key, A, n, c, o, x, kd, nu, it, tx, xs⟩, rfl, hI, by omega, w2, w3, v0, v1, v2, by omega⟩

/-- A slice of versions, out of how it reads. -/
theorem vers_view {A : Option Addr} {n cp : Nat} {d : DataW H} {p : List MemPlace} (hs : P.underlying s = some (.slice t)) (ht : P.underlying t = some (.struct #[f0, f1, f2, f3, f4])) (hct : P.cellsOf t = 8) (hta : P.underlying f4.type = some (.struct #[g0, g1, g2, g3]))
    (offs : [f0.offset, f1.offset, f2.offset, f3.offset, f4.offset, g0.offset, g1.offset, g2.offset, g3.offset] = [0, 1, 2, 3, 4, 0, 1, 2, 3])
    (cells : [f0.type, f1.type, f2.type, f3.type, f4.type, g0.type, g1.type, g2.type, g3.type].map P.cellsOf = [1, 1, 1, 1, 4, 1, 1, 1, 1]) (ce : P.cellsOf e = 1)
    (u0 : P.underlying f0.type = some .string) (u1 : P.underlying f1.type = some (.slice e)) (ue : P.underlying e = some (.int .i64)) (u2 : P.underlying f2.type = some (.int .i64)) (u3 : P.underlying f3.type = some (.int .i64))
    (k0 : P.underlying g0.type = some (.int .i64)) (k1 : P.underlying g1.type = some (.float .f64)) (k2 : P.underlying g2.type = some (.int .i64)) (k3 : P.underlying g3.type = some .string)
    (h : DataW.Trod enc P w 0 (fun _ => true) true s (.slice A n cp) d p) : ∃ vs, VersIn w A n vs := by
  obtain ⟨fuel, hf⟩ := h
  rcases open_slice hs hf with ⟨hcs, _⟩ | ⟨a, len', cap', m, k, D, Pl, hcs, _, hl, hm, hmm, _, hx⟩
  · simp [Value.cells] at hcs
    obtain ⟨rfl, rfl, rfl⟩ := hcs
    exact ⟨[], rfl, by decide, fun h => absurd h (by decide), fun j h => absurd h (by omega)⟩
  · simp [Value.cells] at hcs
    obtain ⟨rfl, rfl, rfl⟩ := hcs
    rw [if_pos rfl] at hmm
    unfold maxLen at hm
    have each : ∀ j, j < n → ∃ r : VerR, (∀ k, k < 8 → w.cell? (a.add (j * 8 + k)) = r.cells[k]?) ∧ r.in_ w := by
      intro j hj
      obtain ⟨cs', h1, h2⟩ := hx j (by omega)
      rw [hct] at h1
      obtain ⟨_, hlen, hcell⟩ := World.cells?_some h1
      obtain ⟨r, rfl, hr⟩ := ver_trod ht hta offs cells ce u0 u1 ue u2 u3 k0 k1 k2 k3 hlen h2
      refine ⟨r, fun k hk => ?_, hr⟩
      have hk' : k < r.cells.length := by rw [hlen]; exact hk
      have h3 := hcell k (by first | exact hk' | exact hk | (rw [hlen]; exact hk))
      simpa [Go.Deep.add_add] using h3
    obtain ⟨q, hq⟩ := choose_lt each
    have hq' : ∀ j, j < n → ((List.range n).map q).getD j VerR.zero = q j := fun j hj => by
      rw [List.getD_eq_getElem?_getD, List.getElem?_map, List.getElem?_range hj]
      rfl
    refine ⟨(List.range n).map q, by simp, by omega, fun hn => ?_, fun j hj => by rw [hq' j hj]; exact (hq j hj).2⟩
    obtain ⟨b, off, spot⟩ := a
    have h0 : w.cell? (Addr.add ⟨b, off, spot⟩ (0 * 8 + 0)) = some (.string (q 0).key) := (hq 0 hn).1 0 (by decide)
    have hspot : spot = none := by simpa [Addr.add] using World.cell?_spot h0
    subst hspot
    refine ⟨b, off, rfl, ?_, fun j hj k hk => ?_⟩
    · rw [Go.WideShapes.add_plain] at h0
      exact block_lt h0
    · have := (hq j hj).1 k hk
      rw [Go.WideShapes.add_plain, ← Nat.add_assoc] at this
      rw [hq' j hj]
      exact this
end
end Go.Proofs.YthacdegaeokgnaaDoor

namespace Go.Proofs.YthacdegaeokgnaaDoor
open Go.RowKit

/-- A version as chapter 6 sees it. -/
def s6 (r : VerR) : S6 := ⟨a6 r.kd r.nu r.it r.tx, timeZ r.xs r.o, r.o, r.x, r.xs⟩
theorem VerR.act {r : VerR} {w : World} (h : r.in_ w) : ActIn r.kd r.nu r.it r.tx := ⟨by have := h.nw; simpa [Lit.wf] using this, h.kw, h.iw, h.ts⟩
theorem getd_at {vs : List VerR} {k : Nat} (h : k < vs.length) : vs.getD k VerR.zero = vs[k] := by
  rw [List.getD_eq_getElem?_getD, List.getElem?_eq_getElem h]
  rfl
def foldA (key : List UInt8) (l : List S6) : V6 := l.foldl (fun v s => afterA key v s.a) V6.zero
theorem foldA_step (key : List UInt8) (vs : List VerR) (k : Nat) (h : k < vs.length) : foldA key ((vs.map s6).take (k + 1)) = afterA key (foldA key ((vs.map s6).take k)) (s6 (vs.getD k VerR.zero)).a := by
  have hk : k < (vs.map s6).length := by rw [List.length_map]; exact h
  unfold foldA
  rw [List.take_succ_eq_append_getElem hk, List.foldl_append, List.getElem_map, getd_at h]
  rfl
theorem valueA_fold {key : List UInt8} (hr : key.headD 0 ≠ 114) (ht : key.headD 0 ≠ 116) (l : List S6) : valueA key l = foldA key l := by
  unfold valueA foldA
  rw [if_neg (by rintro (h | h); exact hr h; exact ht h)]
/-- The one so far, by the place in the list. -/
def bestN (key : List UInt8) (vs : List VerR) (k : Nat) : Option S6 := bestS none (((vs.map s6).take k).filter fun s => fitsA key s.a)
theorem bestS_snoc : ∀ (l : List S6) (b : Option S6) (s : S6), bestS b (l ++ [s]) = match bestS b l with
    | none => some s
    | some t => if laterS s t then some s else some t
  | [], none, s => rfl
  | [], some t, s => by simp only [List.nil_append, bestS]
  | x :: l, none, s => by simp only [List.cons_append, bestS]; exact bestS_snoc l (some x) s
  | x :: l, some t, s => by simp only [List.cons_append, bestS]; exact bestS_snoc l _ s
theorem bestN_step (key : List UInt8) (vs : List VerR) (k : Nat) (h : k < vs.length) : bestN key vs (k + 1) =
    (if fitsA key (s6 (vs.getD k VerR.zero)).a then (match bestN key vs k with
      | none => some (s6 (vs.getD k VerR.zero))
      | some t => if laterS (s6 (vs.getD k VerR.zero)) t then some (s6 (vs.getD k VerR.zero)) else some t) else bestN key vs k) := by
  have hk : k < (vs.map s6).length := by rw [List.length_map]; exact h
  unfold bestN
  rw [List.take_succ_eq_append_getElem hk, List.filter_append, List.getElem_map, getd_at h]
  by_cases hf : fitsA key (s6 vs[k]).a = true
  · rw [if_pos hf, List.filter_cons_of_pos (by exact hf), List.filter_nil, bestS_snoc]
  · rw [if_neg hf, List.filter_cons_of_neg (by exact hf), List.filter_nil, List.append_nil]

/-- What stands while versions are gone through: the value so far, the result's cells, and all that was there. -/
structure Val6 (w : World) (th : Bool) (nu : Nat) (it : Int) (tx : ByteArray) (W : World) : Prop where
  v : Blk W (w.heap.size + 1) 26 (valC th nu it tx)
  r : Blk W w.heap.size 26 (valC false 0 0 ⟨#[]⟩)
  below : Below w.heap.size w W
section
variable {w W W' : World} {th : Bool} {nu : Nat} {it : Int} {tx : ByteArray}
theorem Val6.on (h : Val6 w th nu it tx W) (hb : Below W.heap.size W W') : Val6 w th nu it tx W' := ⟨h.v.below hb h.v.lt, h.r.below hb h.r.lt, h.below.trans (hb.mono h.below.size)⟩
theorem Val6.drew (h : Val6 w th nu it tx W) : Val6 w th nu it tx W.drew := ⟨h.v, h.r, h.below.drew⟩
theorem Val6.start (w : World) : Val6 w false 0 0 ⟨#[]⟩ ((w.alloc (.cells #[.bool false, .float .f64 0, .int .i64 0, .string ⟨#[]⟩] 26)).alloc (.cells #[.bool false, .float .f64 0, .int .i64 0, .string ⟨#[]⟩] 26)) :=
  ⟨Blk.new' (by simp) _ _, (Blk.new w _ _).alloc _, ((Below.refl _ w).alloc (Nat.le_refl _) _).alloc (by simp) _⟩
theorem Val6.set (h : Val6 w th nu it tx W) (th' : Bool) (nu' : Nat) (it' : Int) (tx' : ByteArray) :
    Val6 w th' nu' it' tx' ((((W.setCell ⟨w.heap.size + 1, 0, none⟩ (.bool th')).setCell ⟨w.heap.size + 1, 1, none⟩ (.float .f64 nu')).setCell ⟨w.heap.size + 1, 2, none⟩ (.int .i64 it')).setCell ⟨w.heap.size + 1, 3, none⟩ (.string tx')) :=
  ⟨blk_set4 h.v _ _ _ _, blk_far4 h.r (by omega) _ _ _ _, below_set4 h.below (Nat.le_succ _) _ _ _ _⟩
end
theorem rvalue_end {w : World} {p : Nat} {t : Array Value} {R : Ending → World → Prop} {th : Bool} {nu : Nat} {it : Int} {tx : ByteArray} (B : Blk w p 26 (valC th nu it tx)) (h4 : t[4]?.getD undef = .pointer (some ⟨p, 0, none⟩)) (h : R (.returned (valV th nu it tx)) w) :
    bodyPost Tryd.prog Tryd.f30 R .ret { tmps := t, defers := [] } w := by
  obtain ⟨c0, c1, c2, c3⟩ := val_cells B
  refine bodyPost_ret (v := valV th nu it tx) ?_ rfl h
  simp [results, Tryd.results30, go_sem, c0, c1, c2, c3, h4, valV]

set_option maxRecDepth 100000 in
set_option maxHeartbeats 4000000 in
theorem rvalue_sum (key : ByteArray) (hk : key.size ≤ 9223372036854775807) (A : Option Addr) (n c : Nat) (vs : List VerR) (w : World) (h : VersIn w A n vs) (hkey : isKeyL key.data.toList = true) (hr : key.data.toList.headD 0 ≠ 114) (ht : key.data.toList.headD 0 ≠ 116) :
    Calls Tryd.prog 30 #[.string key, .slice A n c] w fun e w' => RetV e (valueA key.data.toList (vs.map s6)) ∧ Below w.heap.size w w' := by
  rw [valueA_fold hr ht]
  obtain ⟨hlt, c0, hc, hd, g5⟩ := key_first hkey
  rw [hd] at hr ht
  have q1 : ((c0.toNat : Int) == 114) = false := (byte_eq c0 114).trans (decide_eq_false hr)
  have q2 : ((c0.toNat : Int) == 116) = false := (byte_eq c0 116).trans (decide_eq_false ht)
  have n1 : ((c0.toNat : Int) != 114) = true := by rw [bne, q1]; rfl
  have n2 : ((c0.toNat : Int) != 116) = true := by rw [bne, q2]; rfl
  have m1 : ¬ (c0.toNat : Int) = 114 := by simpa using q1
  have m2 : ¬ (c0.toNat : Int) = 116 := by simpa using q2
  have Hc := Lib.hid hc
  clear hd g5 hkey hr ht hc q1 q2
  have R := fun kd nu it tx I W => Lib.hid (rfits_any key hk kd nu it tx I W)
  have AF := fun th vn vi vt IV kd nu it tx I W => Lib.hid (rafter_any key hk th vn vi vt IV kd nu it tx I W)
  simp only [actV, valV] at R AF
  have hst := run_sto_f64
  have S0 := Val6.start w
  have hlen := Lib.hid h.len
  have hmx := h.max
  have h := Lib.hid h
  go_enter Tryd.func30, Tryd.ntmps30
  go_wp2_with fail
  generalize (w.alloc (.cells #[.bool false, .float .f64 0, .int .i64 0, .string ⟨#[]⟩] 26)).alloc (.cells #[.bool false, .float .f64 0, .int .i64 0, .string ⟨#[]⟩] 26) = w0 at S0 ⊢
  go_loopw [6, 7] (fun b i wr => ∃ (k : Nat) (th : Bool) (nu : Nat) (it : Int) (tx : ByteArray), k ≤ n ∧ b = .int .i64 (-1) ∧ i = .int .i64 (k : Int) ∧ Val6 w th nu it tx wr ∧ ValIn nu it tx ∧ v6 th nu it tx = foldA key.data.toList ((vs.map s6).take k))
    (fun _ i _ => (n - intOf i).toNat)
  case atStart => exact ⟨0, _, _, _, _, by omega, rfl, rfl, S0, ValIn.zero, by rw [List.take_zero]; unfold foldA v6 V6.zero; simp [rank_zero]⟩
  case round =>
    obtain ⟨k, th, nu, it, tx, hkn, rfl, rfl, S, IV, hv⟩ := hrel
    have HV := Lib.hid hv
    clear hv
    by_cases hkl : k < n
    · have VI := h.out.below S.below
      obtain ⟨b, off, rfl, hbl, hcells⟩ := VI.some (by omega)
      obtain ⟨r, hr⟩ : ∃ r, vs.getD k VerR.zero = r := ⟨_, rfl⟩
      have RI : r.in_ wr := by rw [← hr]; exact VI.each k hkl
      have I := Lib.hid (VerR.act RI)
      obtain ⟨e0, e1, e2, e3, e4, e5, e6, e7⟩ := VersIn.at_ hcells hkl hr
      have hstep := Lib.hid (foldA_step key.data.toList vs k (by rw [hlen.out]; exact hkl))
      rw [hr, ← HV.out] at hstep
      have hkl' : (k : Int) < (n : Int) := by omega
      clear hcells VI
      obtain ⟨q, hq⟩ : ∃ q, fitsA key.data.toList (a6 r.kd r.nu r.it r.tx) = q := ⟨_, rfl⟩
      have R := R _ _ _ _ I.out
      rw [hq] at R
      have HQ := Lib.hid hq
      clear hq
      go_wp2_with fail
      refine (R _).out.mono ?_
      rintro e w2 ⟨rfl, g2⟩
      obtain ⟨e0, e1, e2, e3, e4, e5, e6, e7⟩ := VersIn.at_ ((h.out.below (S.on g2).below).some (by omega) |> fun ⟨b', off', hA, _, hc⟩ => by cases hA; exact hc) hkl hr
      have S2 := S.on g2
      clear S g2
      cases q
      · have E : Hid (v6 th nu it tx = foldA key.data.toList ((vs.map s6).take (k + 1))) := by
          rw [hstep.out]
          unfold afterA s6
          rw [HQ.out]
          rfl
        go_wp2_with fail
        go_roundw
        case rel => exact ⟨k + 1, th, nu, it, tx, by omega, rfl, by go_num, S2, IV, E.out⟩
        case measure => simp [intOf]; omega
      · obtain ⟨v0, v1, v2, v3⟩ := val_cells S2.v
        have z0 := S2.v.frozen 0
        have z1 := S2.v.frozen 1
        have z2 := S2.v.frozen 2
        have z3 := S2.v.frozen 3
        have AF := AF th nu it tx IV _ _ _ _ I.out
        have S2 := Lib.hid S2
        have hc := Hc.out
        go_wp2_with fail
        clear hc
        go_region_with (go_at_call_of 23 (Value.string r.tx); refine (AF _).out.mono ?_; rintro e w3 ⟨⟨th3, nu3, it3, tx3, rfl, hv3, hx3⟩, g3⟩; have S3 := Val6.on (by first | exact S2.out | exact S2.out.drew) g3; clear z0 z1 z2 z3; have z0 := S3.v.frozen 0; have z1 := S3.v.frozen 1; have z2 := S3.v.frozen 2; have z3 := S3.v.frozen 3; obtain ⟨d0, d1, d2, d3⟩ := val_cells S3.v; simp only [valV])
        all_goals
          have E : Hid (v6 th3 nu3 it3 tx3 = foldA key.data.toList ((vs.map s6).take (k + 1))) := hx3.trans hstep.out.symm
          have S4 := S3.set th3 nu3 it3 tx3
          clear z0 z1 z2 z3 d0 d1 d2 d3 v0 v1 v2 v3
          simp only [Exit.inBlock, Exit.then]
          go_wp2_with fail
          go_roundw
          case rel => exact ⟨k + 1, th3, nu3, it3, tx3, by omega, rfl, by go_num, S4, hv3, E.out⟩
          case measure => simp [intOf]; omega
    · obtain rfl : k = n := by omega
      obtain ⟨v0, v1, v2, v3⟩ := val_cells S.v
      obtain ⟨r0, r1, r2, r3⟩ := val_cells S.r
      have z0 := S.r.frozen 0
      have z1 := S.r.frozen 1
      have z2 := S.r.frozen 2
      have z3 := S.r.frozen 3
      have S := Lib.hid S
      have E : Hid (v6 th nu it tx = foldA key.data.toList (vs.map s6)) := by
        rw [HV.out, List.take_of_length_le (by rw [List.length_map, hlen.out]; exact Nat.le_refl _)]
        exact rfl
      clear HV
      go_wp2_with fail
      try simp only [Exit.inBlock, Exit.then]
      exact rvalue_end (blk_set4 S.out.r (.bool th) (.float .f64 nu) (.int .i64 it) (.string tx)) rfl ⟨⟨th, nu, it, tx, rfl, IV, E.out⟩, below_set4 S.out.below (Nat.le_refl _) _ _ _ _⟩
theorem bestS_nil (b : Option S6) : bestS b [] = b := by cases b <;> rfl
theorem valueA_none {key : List UInt8} {l : List S6} (h : ∀ s ∈ l, fitsA key s.a = false) : valueA key l = V6.zero := by
  unfold valueA
  have hf : (l.filter fun s => fitsA key s.a) = [] := by
    rw [List.filter_eq_nil_iff]
    intro s hs
    rw [h s hs]
    decide
  rw [hf, bestS_nil]
  split
  · rfl
  · have : ∀ (m : List S6) (v : V6), (∀ s ∈ m, fitsA key s.a = false) → m.foldl (fun v s => afterA key v s.a) v = v := by
      intro m
      induction m with
      | nil => intro v _; rfl
      | cons s m ih =>
        intro v hm
        rw [List.foldl_cons]
        have h0 : afterA key v s.a = v := by unfold afterA; rw [hm s (by simp)]; rfl
        rw [h0]
        exact ih v fun t ht => hm t (by simp [ht])
    exact this l V6.zero h
theorem valueA_best {key : List UInt8} (hr : key.headD 0 = 114 ∨ key.headD 0 = 116) (vs : List VerR) : valueA key (vs.map s6) = match bestN key vs vs.length with
    | none => V6.zero
    | some s => doneA V6.zero s.a := by
  unfold valueA bestN
  rw [if_pos hr, List.take_of_length_le (by rw [List.length_map]; exact Nat.le_refl _)]
  first | done | (generalize bestS none _ = b; cases b <;> rfl)

set_option maxRecDepth 100000 in
set_option maxHeartbeats 4000000 in
theorem rvalue_no (key : ByteArray) (hk : key.size ≤ 9223372036854775807) (A : Option Addr) (n c : Nat) (vs : List VerR) (w : World) (h : VersIn w A n vs) (hkey : isKeyL key.data.toList = false) :
    Calls Tryd.prog 30 #[.string key, .slice A n c] w fun e w' => RetV e (valueA key.data.toList (vs.map s6)) ∧ Below w.heap.size w w' := by
  have hf : ∀ a, fitsA key.data.toList a = false := fun a => by unfold fitsA; rw [hkey]; rfl
  rw [valueA_none fun s _ => hf s.a]
  have R := fun kd nu it tx I W => Lib.hid (rfits_any key hk kd nu it tx I W)
  have R := fun kd nu it tx I W => (hf (a6 kd nu it tx)) ▸ R kd nu it tx I W
  have AF := fun th vn vi vt IV kd nu it tx I W => Lib.hid (rafter_any key hk th vn vi vt IV kd nu it tx I W)
  simp only [actV, valV] at R AF
  have hst := run_sto_f64
  have S0 := Val6.start w
  have hlen := Lib.hid h.len
  have hmx := h.max
  have h := Lib.hid h
  go_enter Tryd.func30, Tryd.ntmps30
  go_wp2_with fail
  generalize (w.alloc (.cells #[.bool false, .float .f64 0, .int .i64 0, .string ⟨#[]⟩] 26)).alloc (.cells #[.bool false, .float .f64 0, .int .i64 0, .string ⟨#[]⟩] 26) = w0 at S0 ⊢
  go_loopw [6, 7] (fun b i wr => ∃ (k : Nat), k ≤ n ∧ b = .int .i64 (-1) ∧ i = .int .i64 (k : Int) ∧ Val6 w false 0 0 ⟨#[]⟩ wr)
    (fun _ i _ => (n - intOf i).toNat)
  case atStart => exact ⟨0, by omega, rfl, rfl, S0⟩
  case round =>
    obtain ⟨k, hkn, rfl, rfl, S⟩ := hrel
    by_cases hkl : k < n
    · have VI := h.out.below S.below
      obtain ⟨b, off, rfl, hbl, hcells⟩ := VI.some (by omega)
      obtain ⟨r, hr⟩ : ∃ r, vs.getD k VerR.zero = r := ⟨_, rfl⟩
      have RI : r.in_ wr := by rw [← hr]; exact VI.each k hkl
      have I := Lib.hid (VerR.act RI)
      obtain ⟨e0, e1, e2, e3, e4, e5, e6, e7⟩ := VersIn.at_ hcells hkl hr
      have hkl' : (k : Int) < (n : Int) := by omega
      clear hcells VI AF hf
      have R := R _ _ _ _ I.out
      go_wp2_with fail
      refine (R _).out.mono ?_
      rintro e w2 ⟨rfl, g2⟩
      have S2 := S.on g2
      clear S g2
      go_wp2_with fail
      go_roundw
      case rel => exact ⟨k + 1, by omega, rfl, by go_num, S2⟩
      case measure => simp [intOf]; omega
    · obtain rfl : k = n := by omega
      obtain ⟨v0, v1, v2, v3⟩ := val_cells S.v
      obtain ⟨r0, r1, r2, r3⟩ := val_cells S.r
      have z0 := S.r.frozen 0
      have z1 := S.r.frozen 1
      have z2 := S.r.frozen 2
      have z3 := S.r.frozen 3
      have S := Lib.hid S
      go_wp2_with fail
      try simp only [Exit.inBlock, Exit.then]
      exact rvalue_end (blk_set4 S.out.r (.bool false) (.float .f64 0) (.int .i64 0) (.string ⟨#[]⟩)) rfl ⟨⟨false, 0, 0, ⟨#[]⟩, rfl, ValIn.zero, by unfold v6 V6.zero; simp [rank_zero]⟩, below_set4 S.out.below (Nat.le_refl _) _ _ _ _⟩
end Go.Proofs.YthacdegaeokgnaaDoor

namespace Go.Proofs.YthacdegaeokgnaaDoor
open Go.RowKit

/-- The best one so far stands there. -/
def BestAt (key : List UInt8) (vs : List VerR) (k : Nat) (j : Int) : Prop :=
  (j = -1 ∧ bestN key vs k = none) ∨ (∃ m : Nat, m < k ∧ j = (m : Int) ∧ bestN key vs k = some (s6 (vs.getD m VerR.zero)) ∧ fitsA key (s6 (vs.getD m VerR.zero)).a = true)
theorem BestAt.skip {key : List UInt8} {vs : List VerR} {k : Nat} {j : Int} (h : BestAt key vs k j) (hk : k < vs.length) (hf : fitsA key (s6 (vs.getD k VerR.zero)).a = false) : BestAt key vs (k + 1) j := by
  have e := bestN_step key vs k hk
  rw [hf, if_neg (by decide)] at e
  rcases h with ⟨h1, h2⟩ | ⟨m, h1, h2, h3, h4⟩
  · exact Or.inl ⟨h1, e.trans h2⟩
  · exact Or.inr ⟨m, by omega, h2, e.trans h3, h4⟩
theorem BestAt.first {key : List UInt8} {vs : List VerR} {k : Nat} (h : bestN key vs k = none) (hk : k < vs.length) (hf : fitsA key (s6 (vs.getD k VerR.zero)).a = true) : BestAt key vs (k + 1) (k : Int) := by
  have e := bestN_step key vs k hk
  rw [hf, if_pos rfl, h] at e
  exact Or.inr ⟨k, by omega, rfl, e, hf⟩
theorem BestAt.turn {key : List UInt8} {vs : List VerR} {k m : Nat} (h : bestN key vs k = some (s6 (vs.getD m VerR.zero))) (hk : k < vs.length) (hf : fitsA key (s6 (vs.getD k VerR.zero)).a = true) (hl : laterS (s6 (vs.getD k VerR.zero)) (s6 (vs.getD m VerR.zero)) = true) : BestAt key vs (k + 1) (k : Int) := by
  have e := bestN_step key vs k hk
  rw [hf, if_pos rfl, h] at e
  simp only [hl, if_true] at e
  exact Or.inr ⟨k, by omega, rfl, e, hf⟩
theorem BestAt.stay {key : List UInt8} {vs : List VerR} {k m : Nat} (hm : m < k) (h : bestN key vs k = some (s6 (vs.getD m VerR.zero))) (hk : k < vs.length) (hf : fitsA key (s6 (vs.getD k VerR.zero)).a = true) (hg : fitsA key (s6 (vs.getD m VerR.zero)).a = true) (hl : laterS (s6 (vs.getD k VerR.zero)) (s6 (vs.getD m VerR.zero)) = false) : BestAt key vs (k + 1) (m : Int) := by
  have e := bestN_step key vs k hk
  rw [hf, if_pos rfl, h] at e
  simp only [hl, Bool.false_eq_true, if_false] at e
  exact Or.inr ⟨m, by omega, rfl, e, hg⟩

set_option maxRecDepth 100000 in
set_option maxHeartbeats 4000000 in
theorem rvalue_best (key : ByteArray) (hk : key.size ≤ 9223372036854775807) (A : Option Addr) (n c : Nat) (vs : List VerR) (w : World) (h : VersIn w A n vs) (hkey : isKeyL key.data.toList = true) (hr : key.data.toList.headD 0 = 114 ∨ key.data.toList.headD 0 = 116) :
    Calls Tryd.prog 30 #[.string key, .slice A n c] w fun e w' => RetV e (valueA key.data.toList (vs.map s6)) ∧ Below w.heap.size w w' := by
  have hX := valueA_best hr vs
  obtain ⟨X, hX0⟩ : ∃ X, valueA key.data.toList (vs.map s6) = X := ⟨_, rfl⟩
  rw [hX0] at hX ⊢
  have HX := Lib.hid hX
  clear hX hX0
  obtain ⟨hlt, c0, hc, hd, g5⟩ := key_first hkey
  rw [hd] at hr
  have hn : Hid (((c0.toNat : Int) != 114) = false ∨ (((c0.toNat : Int) != 114) = true ∧ ((c0.toNat : Int) != 116) = false)) := by
    have q1 : ((c0.toNat : Int) == 114) = decide (c0 = 114) := byte_eq c0 114
    have q2 : ((c0.toNat : Int) == 116) = decide (c0 = 116) := byte_eq c0 116
    unfold Hid
    rw [bne, bne, q1, q2]
    rcases hr with rfl | rfl
    · exact Or.inl rfl
    · exact Or.inr ⟨rfl, rfl⟩
  have Hc := Lib.hid hc
  clear hd g5 hkey hr hc
  have R := fun kd nu it tx I W => Lib.hid (rfits_any key hk kd nu it tx I W)
  have AF := fun th vn vi vt IV kd nu it tx I W => Lib.hid (rafter_any key hk th vn vi vt IV kd nu it tx I W)
  have LT := fun (ra rb : VerR) (W : World) (Va : ra.in_ W) (Vb : rb.in_ W) => Lib.hid (rlater_any ra.key ra.A ra.n ra.c ra.o ra.x ra.kd ra.nu ra.it ra.tx ra.xs rb.key rb.A rb.n rb.c rb.o rb.x rb.kd rb.nu rb.it rb.tx rb.xs W Va Vb)
  simp only [actV, valV] at R AF
  simp only [verV] at LT
  have hst := run_sto_f64
  have S0 := Val6.start w
  have hlen := Lib.hid h.len
  have hmx := h.max
  have h := Lib.hid h
  go_enter Tryd.func30, Tryd.ntmps30
  go_wp2_with fail
  generalize (w.alloc (.cells #[.bool false, .float .f64 0, .int .i64 0, .string ⟨#[]⟩] 26)).alloc (.cells #[.bool false, .float .f64 0, .int .i64 0, .string ⟨#[]⟩] 26) = w0 at S0 ⊢
  go_loopw [6, 7] (fun b i wr => ∃ (k : Nat) (j : Int), k ≤ n ∧ b = .int .i64 j ∧ i = .int .i64 (k : Int) ∧ Val6 w false 0 0 ⟨#[]⟩ wr ∧ Hid (BestAt key.data.toList vs k j))
    (fun _ i _ => (n - intOf i).toNat)
  case atStart => exact ⟨0, -1, by omega, rfl, rfl, S0, Or.inl ⟨rfl, by unfold bestN; rw [List.take_zero]; rfl⟩⟩
  case round =>
    obtain ⟨k, j, hkn, rfl, rfl, S, HB⟩ := hrel
    by_cases hkl : k < n
    · have VI := h.out.below S.below
      obtain ⟨b, off, rfl, hbl, hcells⟩ := VI.some (by omega)
      obtain ⟨r, hr⟩ : ∃ r, vs.getD k VerR.zero = r := ⟨_, rfl⟩
      have HR := Lib.hid hr
      have RI : r.in_ wr := by rw [← hr]; exact VI.each k hkl
      have I := Lib.hid (VerR.act RI)
      obtain ⟨e0, e1, e2, e3, e4, e5, e6, e7⟩ := VersIn.at_ hcells hkl hr
      have hkl' : (k : Int) < (n : Int) := by omega
      have hkl2 : k < vs.length := by rw [hlen.out]; exact hkl
      clear hcells VI AF
      obtain ⟨q, hq⟩ : ∃ q, fitsA key.data.toList (a6 r.kd r.nu r.it r.tx) = q := ⟨_, rfl⟩
      have R := R _ _ _ _ I.out
      rw [hq] at R
      have HQ := Lib.hid hq
      clear hq hr
      go_wp2_with fail
      refine (R _).out.mono ?_
      rintro e w2 ⟨rfl, g2⟩
      have S2 := S.on g2
      clear S g2 RI e0 e1 e2 e3 e4 e5 e6 e7
      cases q
      · have E : Hid (BestAt key.data.toList vs (k + 1) j) := HB.out.skip hkl2 (by rw [HR.out]; exact HQ.out)
        go_wp2_with fail
        go_roundw
        case rel => exact ⟨k + 1, j, by omega, rfl, by go_num, S2, E⟩
        case measure => simp [intOf]; omega
      · have VI := h.out.below S2.below
        obtain ⟨b', off', hA, hbl', hcells⟩ := VI.some (by omega)
        cases hA
        obtain ⟨e0, e1, e2, e3, e4, e5, e6, e7⟩ := VersIn.at_ hcells hkl HR.out
        have RI : Hid (r.in_ w2) := by rw [← HR.out]; exact VI.each k hkl
        rcases HB.out with ⟨hj, hbn⟩ | ⟨m, hm, hj, hbn, hfm⟩
        · subst hj
          have E : Hid (BestAt key.data.toList vs (k + 1) (k : Int)) := BestAt.first hbn hkl2 (by rw [HR.out]; exact HQ.out)
          clear hbn HB hcells VI
          rcases hn.out with n1 | ⟨n1, n2⟩
          all_goals
            have hc := Hc.out
            go_wp2_with fail
            clear hc
            go_region
            all_goals
              simp only [Exit.then]
              go_wp2_with fail
              go_roundw
              case rel => exact ⟨k + 1, (k : Int), by omega, rfl, by go_num, S2.drew, E⟩
              case measure => simp [intOf]; omega
        · subst hj
          obtain ⟨rm, hrm⟩ : ∃ rm, vs.getD m VerR.zero = rm := ⟨_, rfl⟩
          have hmn : m < n := by omega
          have RM : Hid (rm.in_ w2) := by rw [← hrm]; exact VI.each m hmn
          obtain ⟨f0, f1, f2, f3, f4, f5, f6, f7⟩ := VersIn.at_ hcells hmn hrm
          have HM := Lib.hid hrm
          have hm' : (m : Int) < (n : Int) := by omega
          have hm0 : decide ((m : Int) < 0) = false := decide_eq_false (by omega)
          have hm1 : (0 : Int) ≤ (m : Int) := by omega
          obtain ⟨q, hq⟩ : ∃ q, laterS (s6 r) (s6 rm) = q := ⟨_, rfl⟩
          have LT : ∀ W, (Val6 w false 0 0 ⟨#[]⟩ W ∧ Below w2.heap.size w2 W) → Hid _ := fun W hW => ((LT r rm W (RI.out.below hW.2) (RM.out.below hW.2)).out.mono fun e w' ⟨he, hb⟩ => (⟨he, hW.1.on hb, hW.2.trans (hb.mono hW.2.size)⟩ : _ ∧ Val6 w false 0 0 ⟨#[]⟩ w' ∧ Below w2.heap.size w2 w'))
          have hq' : laterS (S6.mk (a6 r.kd r.nu r.it r.tx) (timeZ r.xs r.o) r.o r.x r.xs) (S6.mk (a6 rm.kd rm.nu rm.it rm.tx) (timeZ rm.xs rm.o) rm.o rm.x rm.xs) = q := hq
          rw [hq'] at LT
          have CK : ∀ W, Below w2.heap.size w2 W → _ := fun W hW => VersIn.at_ ((VI.below hW).some (by omega) |> fun ⟨b', off', hA, _, hc⟩ => by cases hA; exact hc) hkl HR.out
          have CM : ∀ W, Below w2.heap.size w2 W → _ := fun W hW => VersIn.at_ ((VI.below hW).some (by omega) |> fun ⟨b', off', hA, _, hc⟩ => by cases hA; exact hc) hmn HM.out
          clear e0 e1 e2 e3 e4 e5 e6 e7 f0 f1 f2 f3 f4 f5 f6 f7
          have E : Hid (BestAt key.data.toList vs (k + 1) (if q then (k : Int) else (m : Int))) := by
            cases q
            · exact BestAt.stay hm hbn hkl2 (by rw [HR.out]; exact HQ.out) hfm (by rw [HR.out, hrm]; exact hq)
            · exact BestAt.turn hbn hkl2 (by rw [HR.out]; exact HQ.out) (by rw [HR.out, hrm]; exact hq)
          clear hbn HB hcells VI hrm hq hq' hfm
          rcases hn.out with n1 | ⟨n1, n2⟩
          all_goals
            have hc := Hc.out
            go_wp2_with fail
            clear hc
            refine wp_region_class (fun W => Val6 w false 0 0 ⟨#[]⟩ W ∧ Below w2.heap.size w2 W) (by kernel_rfl) (by kernel_rfl) ⟨S2.drew, (Below.refl _ w2).drew⟩ ?_
            repeat' (first
              | (refine wpQuiet_skip (by rfl) ?_; try simp only [Act.put, List.setIfInBounds_toArray, List.set_cons_zero, List.set_cons_succ])
              | (refine wpQuiet_take (by rfl) ?_ (fun W hW => ?_) ?_
                 rotate_left
                 focus
                   obtain ⟨d0, d1, d2, d3, d4, d5, d6, d7⟩ := CK W hW.2
                   obtain ⟨p0, p1, p2, p3, p4, p5, p6, p7⟩ := CM W hW.2
                   go_simp
                   first
                     | done
                     | with_reducible rfl
                     | exact (LT W hW).out
                 try simp only [Act.put, List.setIfInBounds_toArray, List.set_cons_zero, List.set_cons_succ]))
            refine wpQuiet_nil (fun w5 hW => ?_)
            have S5 := hW.1
            clear hW LT CK CM S2
            simp only [Exit.then]
            cases q
            · go_wp2_with fail
              go_roundw
              case rel => exact ⟨k + 1, (m : Int), by omega, rfl, by go_num, S5, E⟩
              case measure => simp [intOf]; omega
            · go_wp2_with fail
              go_roundw
              case rel => exact ⟨k + 1, (k : Int), by omega, rfl, by go_num, S5, E⟩
              case measure => simp [intOf]; omega
    · obtain rfl : k = n := by omega
      obtain ⟨v0, v1, v2, v3⟩ := val_cells S.v
      obtain ⟨r0, r1, r2, r3⟩ := val_cells S.r
      have z0 := S.r.frozen 0
      have z1 := S.r.frozen 1
      have z2 := S.r.frozen 2
      have z3 := S.r.frozen 3
      have S := Lib.hid S
      rcases HB.out with ⟨rfl, hbn⟩ | ⟨m, hm, rfl, hbn, hfm⟩
      · have HZ : Hid (X = V6.zero) := by
          have e := HX.out
          rw [hlen.out, hbn] at e
          exact e
        clear HB hbn HX
        go_wp2_with fail
        try simp only [Exit.inBlock, Exit.then]
        exact rvalue_end (blk_set4 S.out.r (.bool false) (.float .f64 0) (.int .i64 0) (.string ⟨#[]⟩)) rfl ⟨⟨false, 0, 0, ⟨#[]⟩, rfl, ValIn.zero, by rw [HZ.out]; unfold v6 V6.zero; simp [rank_zero]⟩, below_set4 S.out.below (Nat.le_refl _) _ _ _ _⟩
      · have VI := h.out.below S.out.below
        obtain ⟨b, off, rfl, hbl, hcells⟩ := VI.some (by omega)
        obtain ⟨rm, hrm⟩ : ∃ rm, vs.getD m VerR.zero = rm := ⟨_, rfl⟩
        have RM : rm.in_ wr := by rw [← hrm]; exact VI.each m hm
        have I := Lib.hid (VerR.act RM)
        obtain ⟨f0, f1, f2, f3, f4, f5, f6, f7⟩ := VersIn.at_ hcells hm hrm
        have hm' : (m : Int) < (k : Int) := by omega
        have hm0 : decide ((0 : Int) ≤ (m : Int)) = true := decide_eq_true (by omega)
        have hm1 : (0 : Int) ≤ (m : Int) := by omega
        have T : Hid (X = afterA key.data.toList (v6 false 0 0 ⟨#[]⟩) (a6 rm.kd rm.nu rm.it rm.tx)) := by
          have e := HX.out
          rw [hlen.out, hbn] at e
          rw [hrm] at hfm e
          unfold Hid afterA
          rw [show fitsA key.data.toList (a6 rm.kd rm.nu rm.it rm.tx) = true from hfm, show v6 false 0 0 ⟨#[]⟩ = V6.zero from by unfold v6 V6.zero; simp [rank_zero]]
          exact e
        clear HX
        have AF := AF false 0 0 ⟨#[]⟩ ValIn.zero _ _ _ _ I.out
        clear HB hbn hfm hrm hcells VI RM
        go_wp2_with fail
        refine (AF _).out.mono ?_
        rintro e w3 ⟨⟨th3, nu3, it3, tx3, rfl, hv3, hx3⟩, g3⟩
        have S3 := S.out.on g3
        clear S g3 r0 r1 r2 r3 z0 z1 z2 z3
        obtain ⟨r0, r1, r2, r3⟩ := val_cells S3.r
        have z0 := S3.r.frozen 0
        have z1 := S3.r.frozen 1
        have z2 := S3.r.frozen 2
        have z3 := S3.r.frozen 3
        have S3 := Lib.hid S3
        simp only [valV]
        go_wp2_with fail
        try simp only [Exit.inBlock, Exit.then]
        exact rvalue_end (blk_set4 S3.out.r (.bool th3) (.float .f64 nu3) (.int .i64 it3) (.string tx3)) rfl ⟨⟨th3, nu3, it3, tx3, rfl, hv3, hx3.trans T.out.symm⟩, below_set4 S3.out.below (Nat.le_refl _) _ _ _ _⟩

/-- The document's own answer: what a key has behind all versions of a list. -/
theorem rvaluel_any (key : ByteArray) (hk : key.size ≤ 9223372036854775807) (A : Option Addr) (n c : Nat) (vs : List VerR) (w : World) (h : VersIn w A n vs) :
    Calls Tryd.prog 30 #[.string key, .slice A n c] w fun e w' => RetV e (valueA key.data.toList (vs.map s6)) ∧ Below w.heap.size w w' := by
  by_cases hkey : isKeyL key.data.toList = true
  · by_cases hr : key.data.toList.headD 0 = 114 ∨ key.data.toList.headD 0 = 116
    · exact rvalue_best key hk A n c vs w h hkey hr
    · exact rvalue_sum key hk A n c vs w h hkey (fun e => hr (Or.inl e)) (fun e => hr (Or.inr e))
  · exact rvalue_no key hk A n c vs w h (Bool.eq_false_iff.2 hkey)
end Go.Proofs.YthacdegaeokgnaaDoor
