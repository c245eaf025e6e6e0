/-
  Package skip, part 5: has, Get, Last, Count, Bytes, Steps, Frozen, Freeze, New.
-/
import Derived.Test.YtmagkkkecihgmaaGreatSp4
import Derived.LaidEqlPtr
namespace Go.Proofs.YtmagkkkecihgmaaGreat
open Go.RowKit

/-! ### Lane 0 -/
theorem SkZ.low1 {B p : Nat} {w : World} {s : S10} {Z : List Z10} (h : SkZ B p w s Z) {i : Nat} {m : Z10} (hm : Z[i]? = some m) : 1 ≤ m.2.2.2 ∧ m.2.2.2 ≤ 12 := (h.ok _ (List.mem_of_getElem? (h.at_L hm))).2.2
theorem SkZ.opn0 {B p : Nat} {w : World} {s : S10} {Z : List Z10} (h : SkZ B p w s Z) {k : Nat} (hk : k ≤ Z.length) : Opn Z k 0 := by
  rcases k with _ | k
  · exact Or.inl rfl
  · obtain ⟨m, hm⟩ : ∃ m, Z[k]? = some m := ⟨_, List.getElem?_eq_getElem (by omega)⟩
    have := (h.low1 hm).1
    exact Or.inr ⟨m, by rw [Nat.add_sub_cancel]; exact hm, by omega⟩
theorem SkZ.bef0 {B p : Nat} {w : World} {s : S10} {Z : List Z10} (h : SkZ B p w s Z) {k : Nat} (hk : k ≤ Z.length) : bef Z 0 k = k := bef_of (h.opn0 hk) k (Nat.le_refl _) (fun i m h1 h2 _ => by omega)
theorem SkZ.lnk0 {B p : Nat} {w : World} {s : S10} {Z : List Z10} (h : SkZ B p w s Z) {k : Nat} (hk : k ≤ Z.length) : lnk Z k 0 = (Z[k]?).map toA := by
  rw [lnk_pos (h.opn0 hk)]
  rcases Nat.lt_or_ge k Z.length with hl | hl
  · have hm : Z[k]? = some Z[k] := List.getElem?_eq_getElem hl
    have := (h.low1 hm).1
    rw [List.drop_eq_getElem_cons hl, nxt, if_pos (by omega), hm]
  · rw [List.drop_eq_nil_of_le hl, List.getElem?_eq_none hl]
    rfl
/-- What stands behind the way to a key. -/
theorem SkZ.ahead {B p g : Nat} {w w3 : World} {s : S10} {Z : List Z10} {pl : Nat} (h : SkZ B p w s Z) (hpl : pl ≤ Z.length) (G : w.grownBy w3 none) (H3 : Blk w3 g 31 (befV p Z pl)) :
    w3.cell? ⟨g, 0, none⟩ = some (.pointer (some ⟨padr p Z pl, 0, none⟩)) ∧ w3.cell? ⟨padr p Z pl, 2, none⟩ = some (.pointer ((Z[pl]?).map toA)) := by
  refine ⟨?_, ?_⟩
  · rw [H3.cell, befV_at _ _ _ (by decide), h.bef0 hpl]
    rfl
  · have := (h.at_.up G).link (k := pl) (t := 0) hpl (by decide)
    rw [h.lnk0 hpl] at this
    exact this
theorem SkZ.pl_le {B p : Nat} {w : World} {s : S10} {Z : List Z10} (h : SkZ B p w s Z) (key : ByteArray) : placeL s.L key ≤ Z.length := by rw [h.len]; exact placeL_le _ _

set_option maxHeartbeats 400000 in
theorem has_nil (key : ByteArray) (w : World) : Calls Tryz.prog 32 #[.pointer none, .string key] w fun e w' => e = .returned (.bool false) ∧ w' = w := by
  go_enter Tryz.func32, Tryz.ntmps32
  go_wp2_with fail
  go_ret
  exact ⟨rfl, rfl⟩
set_option maxHeartbeats 400000 in
theorem has_some {a : Nat} {k : ByteArray} (key : ByteArray) (w : World) (hk : w.cell? ⟨a, 0, none⟩ = some (.string k)) : Calls Tryz.prog 32 #[.pointer (some ⟨a, 0, none⟩), .string key] w fun e w' => e = .returned (.bool (decide (k = key))) ∧ w' = w := by
  have e := teq9 k key
  go_enter Tryz.func32, Tryz.ntmps32
  go_wp2_with fail
  go_ret
  exact ⟨by rw [← e]; rfl, rfl⟩

set_option maxRecDepth 100000 in
set_option maxHeartbeats 2000000 in
theorem skget_any {B p : Nat} {s : S10} {w : World} {Z : List Z10} (h : SkZ B p w s Z) (key : ByteArray) (hL : s.L.length ≤ 100000) :
    Calls Tryz.prog 8 #[.pointer (some ⟨p, 0, none⟩), .string key] w fun e w' => e = .returned (.tuple #[.string (getL s.L key).1, .int .i64 (getL s.L key).2]) ∧ w.grownBy w' none := by
  have CW := Lib.hid (way_any h key hL)
  have hpl := h.pl_le key
  have hAh := Lib.hid (fun g w3 G H3 => h.ahead (g := g) (w3 := w3) hpl G H3)
  have hnd := Lib.hid (fun (w3 : World) (G : w.grownBy w3 none) (m : Z10) (hm : Z[placeL s.L key]? = some m) => (And.intro ((h.at_.up G).nd _ m hm).key ((h.at_.up G).nd _ m hm).val))
  obtain ⟨r, hr⟩ : ∃ r, getL s.L key = r := ⟨_, rfl⟩
  rw [hr]
  unfold getL at hr
  have hL : s.L[placeL s.L key]? = (Z[placeL s.L key]?).map Prod.snd := by rw [← h.map, List.getElem?_map]
  rw [hL] at hr
  generalize placeL s.L key = pl at *
  generalize hz : Z[pl]? = z at *
  have HZ := Lib.hid hz
  clear hz hL h hpl
  cases z with
  | none =>
    simp only [Option.map_none] at hr
    subst hr
    go_enter Tryz.func8, Tryz.ntmps8
    go_wp2_with fail
    refine CW.out.mono ?_
    rintro e w1 ⟨rfl, G1⟩
    go_wp2_with (refine wpList_store_arr (Blk.new w1 _ _) rfl (befV_size p Z pl) (befV_one p Z pl) rfl (.tmp 6) (.tmp 15) rfl rfl rfl ?_; intro w3 H3 G3; have G4 := grown_new (gnone G1 (World.grownBy_alloc w1 _ none)) G3 G1.size; obtain ⟨y0, y1⟩ := hAh.out _ w3 G4 H3)
    refine (has_nil key w3).mono ?_
    rintro e w5 ⟨rfl, rfl⟩
    go_wp2_with fail
    go_ret2
    exact ⟨rfl, G4⟩
  | some m =>
    simp only [Option.map_some] at hr
    by_cases hq : m.2.1 = key
    · rw [if_pos hq] at hr
      subst hr
      go_enter Tryz.func8, Tryz.ntmps8
      go_wp2_with fail
      refine CW.out.mono ?_
      rintro e w1 ⟨rfl, G1⟩
      go_wp2_with (refine wpList_store_arr (Blk.new w1 _ _) rfl (befV_size p Z pl) (befV_one p Z pl) rfl (.tmp 6) (.tmp 15) rfl rfl rfl ?_; intro w3 H3 G3; have G4 := grown_new (gnone G1 (World.grownBy_alloc w1 _ none)) G3 G1.size; obtain ⟨y0, y1⟩ := hAh.out _ w3 G4 H3; obtain ⟨y2, y3⟩ := hnd.out w3 G4 m rfl; rw [Option.map_some, toA] at y1)
      refine (has_some key w3 y2).mono ?_
      rintro e w5 ⟨rfl, rfl⟩
      have e1 : decide (m.2.1 = key) = true := decide_eq_true hq
      go_wp2_with fail
      go_ret2
      exact ⟨rfl, G4⟩
    · rw [if_neg hq] at hr
      subst hr
      go_enter Tryz.func8, Tryz.ntmps8
      go_wp2_with fail
      refine CW.out.mono ?_
      rintro e w1 ⟨rfl, G1⟩
      go_wp2_with (refine wpList_store_arr (Blk.new w1 _ _) rfl (befV_size p Z pl) (befV_one p Z pl) rfl (.tmp 6) (.tmp 15) rfl rfl rfl ?_; intro w3 H3 G3; have G4 := grown_new (gnone G1 (World.grownBy_alloc w1 _ none)) G3 G1.size; obtain ⟨y0, y1⟩ := hAh.out _ w3 G4 H3; obtain ⟨y2, y3⟩ := hnd.out w3 G4 m rfl; rw [Option.map_some, toA] at y1)
      refine (has_some key w3 y2).mono ?_
      rintro e w5 ⟨rfl, rfl⟩
      have e1 : decide (m.2.1 = key) = false := decide_eq_false hq
      go_wp2_with fail
      go_ret2
      exact ⟨rfl, G4⟩

theorem underPtr : Tryz.prog.underlying 30 = some (.pointer 33) := by kernel_rfl
theorem infoPair : (Tryz.prog.info? 33).map (fun i => (i.size, i.size == 0)) = some (14, false) := by kernel_rfl
theorem neq_ptr_same (w : World) (a : Addr) : (binOp .neq 30 (.pointer (some a)) (.pointer (some a))).run Tryz.prog w = .ok (.bool false) w := by
  cases hi : Tryz.prog.info? 33 with
  | none => have := infoPair; rw [hi] at this; cases this
  | some j =>
    have h : ∀ d : Nat, (Op.equalIn (d + 1) 30 (.pointer (some a)) (.pointer (some a))).run Tryz.prog w = .ok true w := fun d => by
      simp [Op.equalIn, run_underlying underPtr, sizeOf, typeInfo, hi, run_sameAddr_same]
    simp only [binOp]
    simp [Op.equal, Op.maxDepth, h 9999]
theorem neq_ptr_other (w : World) {a b : Addr} (hne : a ≠ b) (ha : ∃ cs, Blk w a.block 33 cs) (hb : ∃ cs, Blk w b.block 36 cs) : (binOp .neq 30 (.pointer (some a)) (.pointer (some b))).run Tryz.prog w = .ok (.bool true) w := by
  obtain ⟨ca, ha⟩ := ha
  obtain ⟨cb, hb⟩ := hb
  cases hi : Tryz.prog.info? 33 with
  | none => have := infoPair; rw [hi] at this; cases this
  | some j =>
    have hsz : j.size ≠ 0 := by have := infoPair; rw [hi] at this; simp at this; omega
    have h : ∀ d : Nat, (Op.equalIn (d + 1) 30 (.pointer (some a)) (.pointer (some b))).run Tryz.prog w = .ok false w := fun d => by
      simp [Op.equalIn, run_underlying underPtr, sizeOf, typeInfo, hi, hsz, run_sameAddr_other w hne ha hb]
    simp only [binOp]
    simp [Op.equal, Op.maxDepth, h 9999]
set_option maxRecDepth 100000 in
set_option maxHeartbeats 2000000 in
theorem sklast_any {B p : Nat} {s : S10} {w : World} {Z : List Z10} (h : SkZ B p w s Z) (key : ByteArray) (hL : s.L.length ≤ 100000) :
    Calls Tryz.prog 14 #[.pointer (some ⟨p, 0, none⟩), .string key] w fun e w' => e = .returned (.tuple #[.string (lastL s.L key).1, .string (lastL s.L key).2.1, .bool (lastL s.L key).2.2]) ∧ w.grownBy w' none := by
  have CW := Lib.hid (way_any h key hL)
  have hpl := h.pl_le key
  have hAh := Lib.hid (fun g w3 G H3 => h.ahead (g := g) (w3 := w3) hpl G H3)
  have hnd := fun (w3 : World) (G : w.grownBy w3 none) (i : Nat) (m : Z10) (hm : Z[i]? = some m) => (And.intro ((h.at_.up G).nd _ m hm).key (And.intro ((h.at_.up G).nd _ m hm).val ((h.at_.up G).nd _ m hm |>.ne_ (h.at_.up G).hd)))
  have hhd := Lib.hid (fun (w3 : World) (G : w.grownBy w3 none) => (And.intro (h.at_.up G).hd.key (h.at_.up G).hd.val))
  obtain ⟨r, hr⟩ : ∃ r, lastL s.L key = r := ⟨_, rfl⟩
  rw [hr]
  unfold lastL at hr
  have hL : s.L[placeL s.L key - 1]? = (Z[placeL s.L key - 1]?).map Prod.snd := by rw [← h.map, List.getElem?_map]
  rw [hL] at hr
  generalize placeL s.L key = pl at *
  clear hL
  cases pl with
  | zero =>
    clear h
    have hr2 : r = (⟨#[]⟩, ⟨#[]⟩, false) := by
      rw [← hr]
      split
      · rw [if_pos rfl]
      · rfl
    subst hr2
    clear hr hnd hpl
    go_enter Tryz.func14, Tryz.ntmps14
    go_wp2_with fail
    refine CW.out.mono ?_
    rintro e w1 ⟨rfl, G1⟩
    go_wp2_with (refine wpList_store_arr (Blk.new w1 _ _) rfl (befV_size p Z 0) (befV_one p Z 0) rfl (.tmp 7) (.tmp 16) rfl rfl rfl ?_; intro w3 H3 G3; have G4 := grown_new (gnone G1 (World.grownBy_alloc w1 _ none)) G3 G1.size; obtain ⟨y0, y1⟩ := hAh.out _ w3 G4 H3; obtain ⟨y2, y3⟩ := hhd.out w3 G4; rw [padr_zero] at y0)
    have hne := fun n => neq_ptr_same (w3.drewN n) ⟨p, 0, none⟩
    go_quiet (fail)
    go_wp2_with fail
    go_ret3
    exact ⟨rfl, only_drewN G4 _⟩
  | succ k =>
    obtain ⟨m, hm⟩ : ∃ m, Z[k]? = some m := ⟨_, List.getElem?_eq_getElem (by omega)⟩
    rw [Nat.add_sub_cancel, hm] at hr
    simp only [Option.map_some] at hr
    rw [if_neg (by omega)] at hr
    subst hr
    have hnd2 := Lib.hid (fun w3 G => hnd w3 G k m hm)
    have hnb := Lib.hid (fun (w3 : World) (G : w.grownBy w3 none) => (And.intro ((h.at_.up G).nd _ m hm).ty (h.at_.up G).hd.ty))
    have hp := padr_succ (p := p) hm
    have Hp := Lib.hid hp
    clear hnd hm hp hpl h
    go_enter Tryz.func14, Tryz.ntmps14
    go_wp2_with fail
    refine CW.out.mono ?_
    rintro e w1 ⟨rfl, G1⟩
    go_wp2_with (refine wpList_store_arr (Blk.new w1 _ _) rfl (befV_size p Z (k + 1)) (befV_one p Z (k + 1)) rfl (.tmp 7) (.tmp 16) rfl rfl rfl ?_; intro w3 H3 G3; have G4 := grown_new (gnone G1 (World.grownBy_alloc w1 _ none)) G3 G1.size; obtain ⟨y0, y1⟩ := hAh.out _ w3 G4 H3; obtain ⟨y2, y3, y4⟩ := hnd2.out w3 G4; rw [Hp.out] at y0)
    have hne := fun n => neq_ptr_other (w3.drewN n) (a := ⟨m.1, 0, none⟩) (b := ⟨p, 0, none⟩) (fun e => y4 (by injection e)) (hnb.out w3 G4).1 (hnb.out w3 G4).2
    go_quiet (fail)
    go_wp2_with fail
    go_ret3
    exact ⟨rfl, only_drewN G4 _⟩

set_option maxHeartbeats 400000 in
theorem skcount_any {B p : Nat} {s : S10} {w : World} {Z : List Z10} (h : SkZ B p w s Z) :
    Calls Tryz.prog 19 #[.pointer (some ⟨p, 0, none⟩)] w fun e w' => e = .returned (.int .i64 s.L.length) ∧ w' = w := by
  have c0 := h.at_.hd.count (t := 0) (by decide)
  have e0 : cntL s.L 0 = s.L.length := by
    unfold cntL
    rw [List.filter_eq_self.2 (fun m hm => by have := (h.ok m hm).2.2.1; simp; omega)]
  rw [e0] at c0
  clear h e0
  generalize s.L.length = n at *
  go_enter Tryz.func19, Tryz.ntmps19
  go_wp2_with fail
  go_ret
  exact ⟨rfl, rfl⟩
set_option maxHeartbeats 400000 in
theorem skbytes_any {B p : Nat} {s : S10} {w : World} {Z : List Z10} (h : SkZ B p w s Z) :
    Calls Tryz.prog 25 #[.pointer (some ⟨p, 0, none⟩)] w fun e w' => e = .returned (.int .i64 (bytesL s.L)) ∧ w' = w := by
  have c0 := h.at_.hd.bytes
  clear h
  generalize bytesL s.L = n at *
  go_enter Tryz.func25, Tryz.ntmps25
  go_wp2_with fail
  go_ret
  exact ⟨rfl, rfl⟩
set_option maxHeartbeats 400000 in
theorem skfrozen_any {B p : Nat} {s : S10} {w : World} {Z : List Z10} (h : SkZ B p w s Z) :
    Calls Tryz.prog 20 #[.pointer (some ⟨p, 0, none⟩)] w fun e w' => e = .returned (.bool s.frozen) ∧ w' = w := by
  have c0 := h.at_.hd.froz
  clear h
  generalize s.frozen = n at *
  go_enter Tryz.func20, Tryz.ntmps20
  go_wp2_with fail
  go_ret
  exact ⟨rfl, rfl⟩
set_option maxHeartbeats 400000 in
theorem skfreeze_any {B p : Nat} {s : S10} {w : World} {Z : List Z10} (h : SkZ B p w s Z) :
    Calls Tryz.prog 16 #[.pointer (some ⟨p, 0, none⟩)] w fun e w' => e = .returned (.tuple #[]) ∧ SkZ B p w' { s with frozen := true } Z ∧ Tu (Foot p Z) w w' := by
  have c0 := h.at_.hd.froz
  have f0 := h.at_.hd.frozen 27
  have H : Hid (SkZ B p (w.setCell ⟨p, 27, none⟩ (.bool true)) { s with frozen := true } Z) := ⟨h.map, h.at_.setF true, h.rise, h.ok⟩
  have G : Hid (Tu (Foot p Z) w (w.setCell ⟨p, 27, none⟩ (.bool true))) := (Tu.refl _ w).setCell (p := ⟨p, 27, none⟩) (Or.inr (Or.inl rfl)) _
  clear h
  go_enter Tryz.func16, Tryz.ntmps16
  go_wp2_with fail
  go_end0
  exact ⟨rfl, H.out, G.out⟩
set_option maxRecDepth 100000 in
set_option maxHeartbeats 1000000 in
theorem sksteps_any {B p : Nat} {s : S10} {w : World} {Z : List Z10} (h : SkZ B p w s Z) (key : ByteArray) (hL : s.L.length ≤ 100000) :
    Calls Tryz.prog 17 #[.pointer (some ⟨p, 0, none⟩), .string key] w fun e w' => e = .returned (.int .i64 (stepsL s.L key)) ∧ w.grownBy w' none := by
  have CW := Lib.hid (way_any h key hL)
  generalize placeL s.L key = pl at *
  generalize stepsL s.L key = r at *
  clear h hL
  go_enter Tryz.func17, Tryz.ntmps17
  go_wp2_with fail
  refine CW.out.mono ?_
  rintro e w1 ⟨rfl, G1⟩
  go_wp2_with (refine wpList_store_arr (Blk.new w1 _ _) rfl (befV_size p Z pl) (befV_one p Z pl) rfl (.tmp 5) (.tmp 13) rfl rfl rfl ?_; intro w3 H3 G3; have G4 := grown_new (gnone G1 (World.grownBy_alloc w1 _ none)) G3 G1.size)
  go_ret
  exact ⟨rfl, G4⟩
end Go.Proofs.YtmagkkkecihgmaaGreat
