/-
  Package skip, part 9: a pair is in; Put.
-/
import Derived.Test.YtmagkkkecihgmaaGreatSp8
import Derived.Deep.QuietTactic
namespace Go.Proofs.YtmagkkkecihgmaaGreat
open Go.RowKit

theorem cntL_ins (L : List P10) (pl : Nat) (x : P10) (H h : Nat) (hH : x.2.2 = (H : Int)) : (cntL (insL L pl x) h : Int) = cntM L H h := by
  have e : cntL L h = cntL (L.take pl) h + cntL (L.drop pl) h := by
    conv => lhs; rw [← List.take_append_drop pl L]
    unfold cntL
    rw [List.filter_append, List.length_append]
  have e2 : cntL (insL L pl x) h = cntL (L.take pl) h + cntL [x] h + cntL (L.drop pl) h := by
    unfold insL cntL
    rw [List.filter_append, List.filter_append, List.length_append, List.length_append]
  have e3 : cntL [x] h = if h < H then 1 else 0 := by
    unfold cntL
    by_cases z : h < H
    · rw [List.filter_cons_of_pos (by simp; omega), if_pos z]; rfl
    · rw [List.filter_cons_of_neg (by simp; omega), if_neg z]; rfl
  unfold cntM
  rw [e2, e3, e]
  split <;> omega
theorem bytesL_ins (L : List P10) (pl : Nat) (x : P10) : bytesL (insL L pl x) = bytesL L + x.1.size + x.2.1.size := by
  have e : bytesL L = bytesL (L.take pl) + bytesL (L.drop pl) := by
    conv => lhs; rw [← List.take_append_drop pl L]
    unfold bytesL
    rw [List.map_append, List.sum_append]
  rw [e]
  unfold insL bytesL
  simp
  omega
theorem skz_ins {B p a H : Nat} {w w0 : World} {s : S10} {Z : List Z10} {key value : ByteArray} {ht : Int} (h : SkZ B p w0 s Z) (hH : clampH ht = (H : Int)) (hk : key.size ≤ 65536) (hv : value.size ≤ 65536) (hno : hasL s.L key = false) (ha : ¬ Foot p Z a) (hBa : B ≤ a)
    (h1 : SpAt B p w Z (lnkM Z (placeL s.L key) a H) (cntM s.L H) ((bytesL s.L + key.size + value.size : Nat) : Int) s.frozen) (h2 : NdAt w a key value (lnkN Z (placeL s.L key) H)) :
    SkZ B p w { s with L := insL s.L (placeL s.L key) (key, value, clampH ht) } (insZ Z (placeL s.L key) (a, key, value, clampH ht)) := by
  have hpl := h.pl_le key
  have hcl := clampH_in ht
  have hne : ∀ m, s.L[placeL s.L key]? = some m → m.1 ≠ key := fun m hm e => by
    unfold hasL at hno
    rw [hm] at hno
    exact absurd e (of_decide_eq_false hno)
  have hr := rising_ins h.rise (x := (key, value, clampH ht)) hne
  refine ⟨by rw [insZ_map, h.map], ⟨?_, fun i m hm => ?_, ⟨h1.low.1, fun m hm => ?_⟩, fun i j m n hm hn e => ?_⟩, hr, fun m hm => ?_⟩
  · have e1 : (bytesL (insL s.L (placeL s.L key) (key, value, clampH ht)) : Int) = ((bytesL s.L + key.size + value.size : Nat) : Int) := by rw [bytesL_ins]
    show HdAt w p _ _ (bytesL (insL s.L (placeL s.L key) (key, value, clampH ht)) : Int) s.frozen
    rw [e1]
    exact h1.hd.eq_ (fun t _ => lnk_old hpl (Nat.zero_le _) H hH) (fun t _ => cntL_ins _ _ _ H t hH)
  · rcases Nat.lt_trichotomy i (placeL s.L key) with hi | hi | hi
    · rw [insZ_lt hpl hi] at hm
      exact (h1.nd i m hm).eq_ (fun t _ => lnk_old hpl (by omega) H hH)
    · subst hi
      rw [insZ_at hpl] at hm
      cases hm
      exact h2.eq_ (fun t _ => lnk_new hpl H hH)
    · obtain ⟨k, rfl⟩ : ∃ k, i = k + 1 := ⟨i - 1, by omega⟩
      rw [insZ_gt hpl (by omega)] at hm
      exact (h1.nd k m hm).eq_ (fun t _ => lnk_far hpl (by omega) H)
  · unfold insZ at hm
    rw [List.mem_append, List.mem_append, List.mem_singleton] at hm
    rcases hm with (hm | hm) | hm
    · exact h1.low.2 m (List.mem_of_mem_take hm)
    · subst hm; exact hBa
    · exact h1.low.2 m (List.mem_of_mem_drop hm)
  · have old : ∀ (i : Nat) (m : Z10), (insZ Z (placeL s.L key) (a, key, value, clampH ht))[i]? = some m → i ≠ placeL s.L key → ∃ k, Z[k]? = some m ∧ ((i < placeL s.L key ∧ k = i) ∨ (placeL s.L key < i ∧ k + 1 = i)) := fun i m hm hi => by
      rcases Nat.lt_or_ge i (placeL s.L key) with hl | hl
      · rw [insZ_lt hpl hl] at hm
        exact ⟨i, hm, Or.inl ⟨hl, rfl⟩⟩
      · obtain ⟨k, rfl⟩ : ∃ k, i = k + 1 := ⟨i - 1, by omega⟩
        rw [insZ_gt hpl (by omega)] at hm
        exact ⟨k, hm, Or.inr ⟨by omega, rfl⟩⟩
    have new : ∀ (m : Z10), (insZ Z (placeL s.L key) (a, key, value, clampH ht))[placeL s.L key]? = some m → m.1 = a := fun m hm => by
      rw [insZ_at hpl] at hm
      cases hm
      rfl
    by_cases hi : i = placeL s.L key
    · by_cases hj : j = placeL s.L key
      · omega
      · exfalso
        subst hi
        obtain ⟨k, hk, _⟩ := old j n hn hj
        rw [new m hm] at e
        exact ha (Or.inr ⟨n, List.mem_of_getElem? hk, e.symm⟩)
    · obtain ⟨k, hk, hki⟩ := old i m hm hi
      by_cases hj : j = placeL s.L key
      · exfalso
        subst hj
        rw [new n hn] at e
        exact ha (Or.inr ⟨m, List.mem_of_getElem? hk, e⟩)
      · obtain ⟨l, hl, hlj⟩ := old j n hn hj
        have := h1.apart k l m n hk hl e
        omega
  · unfold insL at hm
    rw [List.mem_append, List.mem_append, List.mem_singleton] at hm
    rcases hm with (hm | hm) | hm
    · exact h.ok m (List.mem_of_mem_take hm)
    · subst hm; exact ⟨hk, hv, hcl⟩
    · exact h.ok m (List.mem_of_mem_drop hm)

theorem run_cap1 (n : Int) (W : World) : (Builtin.max_ #[3, 3] 3 #[.int .i64 n, .int .i64 1]).run Tryz.prog W = .ok (.int .i64 (if n < 1 then 1 else n)) W := by
  simp [Builtin.max_, Builtin.max2]
theorem run_cup12 (n : Int) (W : World) : (Builtin.min_ #[3, 3] 3 #[.int .i64 n, .int .i64 12]).run Tryz.prog W = .ok (.int .i64 (if 12 < n then 12 else n)) W := by
  simp [Builtin.min_, Builtin.min2]
theorem clamp_eq (n : Int) : (if 12 < (if n < 1 then 1 else n) then 12 else (if n < 1 then 1 else n)) = clampH n := by
  unfold clampH
  by_cases z : n < 1
  · rw [if_pos z, if_pos z]; rfl
  · rw [if_neg z, if_neg z]
def newP (key value : ByteArray) : Array Value := #[.string key, .string value, .pointer none, .pointer none, .pointer none, .pointer none, .pointer none, .pointer none, .pointer none, .pointer none, .pointer none, .pointer none, .pointer none, .pointer none]
theorem nd_new {w : World} {a : Nat} {key value : ByteArray} (h : Blk w a 33 (newP key value)) : NdAt w a key value (fun _ => none) := by
  refine ⟨_, h, rfl, rfl, rfl, fun t ht => ?_⟩
  unfold newP
  rcases t with _ | _ | _ | _ | _ | _ | _ | _ | _ | _ | _ | _ | t <;> first | rfl | omega

/-- Whether the pair behind the way has the key. -/
theorem has_at {B p : Nat} {w w3 : World} {s : S10} {Z : List Z10} (h : SkZ B p w s Z) (G : w.grownBy w3 none) (key : ByteArray) (n : Nat) :
    Calls Tryz.prog 32 #[.pointer ((Z[placeL s.L key]?).map toA), .string key] (w3.drewN n) fun e w' => e = .returned (.bool (hasL s.L key)) ∧ w' = w3.drewN n := by
  have hL : s.L[placeL s.L key]? = (Z[placeL s.L key]?).map Prod.snd := by rw [← h.map, List.getElem?_map]
  unfold hasL
  rw [hL]
  cases hz : Z[placeL s.L key]? with
  | none => exact has_nil key _
  | some m => exact has_some key _ (((h.up (only_drewN G n)).at_.nd _ m hz).key)
set_option maxRecDepth 100000 in
set_option maxHeartbeats 4000000 in
/-- The steps of Put, where a pair is put in. -/
theorem putstep_ok {B p : Nat} {s : S10} {w : World} {Z : List Z10} (b0 b1 b2 b3 : Nat) (key value : ByteArray) (ht : Int) (B0 : Blk w b0 24 #[.pointer (some ⟨p, 0, none⟩)]) (B1 : Blk w b1 9 #[.string key]) (B2 : Blk w b2 9 #[.string value]) (B3 : Blk w b3 3 #[.int .i64 ht])
    (h : SkZ B p w s Z) (hB : B ≤ w.heap.size) (hL : s.L.length ≤ 100000) (hf : s.frozen = false) (hk : key.size ≤ 65536) (hv : value.size ≤ 65536) (hno : hasL s.L key = false) :
    Calls Tryz.prog 29 #[.pointer (some ⟨b0, 0, none⟩), .pointer (some ⟨b1, 0, none⟩), .pointer (some ⟨b2, 0, none⟩), .pointer (some ⟨b3, 0, none⟩)] w fun e w' => e = .returned (.tuple #[]) ∧ ∃ a, w.heap.size ≤ a ∧ SkZ B p w' { s with L := insL s.L (placeL s.L key) (key, value, clampH ht) } (insZ Z (placeL s.L key) (a, key, value, clampH ht)) ∧ Tu (Foot p Z) w w' := by
  obtain ⟨H, hH⟩ : ∃ H : Nat, clampH ht = (H : Int) := ⟨(clampH ht).toNat, by have := (clampH_in ht).1; omega⟩
  have hH12 : H ≤ 12 := by have := (clampH_in ht).2; omega
  have CW := Lib.hid (way_any h key hL)
  have hpl := h.pl_le key
  have c27 := h.at_.hd.froz
  rw [hf] at c27
  have AK := Lib.hid (ask_ok w c27)
  have d0 := B0.cell 0
  have d1 := B1.cell 0
  have d2 := B2.cell 0
  have H0 := Lib.hid B0
  have H1 := Lib.hid B1
  have H2 := Lib.hid B2
  have H3 := Lib.hid B3
  have HS := Lib.hid h
  have g1 : ¬ (65536 : Int) < (key.size : Int) := by omega
  have g2 : ¬ (65536 : Int) < (value.size : Int) := by omega
  have HX := Lib.hid (And.intro hB (And.intro hL (And.intro hk (And.intro hv (And.intro hno (And.intro hpl (And.intro hH hH12)))))))
  obtain ⟨x1, hx1⟩ : ∃ x1, (if ht < 1 then 1 else ht) = x1 := ⟨_, rfl⟩
  have hmax := run_cap1 ht
  have hmin := run_cup12 x1
  rw [hx1] at hmax
  have hx2 : (if 12 < x1 then 12 else x1) = (H : Int) := by rw [← hx1, clamp_eq, hH]
  rw [hx2] at hmin
  clear hx1 hx2 h hB hL hk hv hno hpl hH hH12 c27 hf B0 B1 B2 B3
  go_enter Tryz.func29, Tryz.ntmps29
  go_wp2_with fail
  refine AK.out.mono ?_
  rintro e w' ⟨rfl, rfl⟩
  go_wp2_with fail
  refine CW.out.mono ?_
  rintro e w1 ⟨rfl, G1⟩
  generalize hq : placeL s.L key = pl at *
  have Hq := Lib.hid hq
  clear hq
  go_upto_region 4 with (refine wpList_store_arr (Blk.new w1 _ _) rfl (befV_size p Z pl) (befV_one p Z pl) rfl (.tmp 4) (.tmp 21) rfl rfl rfl ?_; intro w3 A3 G3; have G4 := grown_new (gnone G1 (World.grownBy_alloc w1 _ none)) G3 G1.size; obtain ⟨y0, y1⟩ := HS.out.ahead (g := w1.heap.size) HX.out.2.2.2.2.2.1 G4 A3)
  replace H0 := Lib.hid (H0.out.grown G4 (by simp))
  replace H1 := Lib.hid (H1.out.grown G4 (by simp))
  replace H2 := Lib.hid (H2.out.grown G4 (by simp))
  replace H3 := Lib.hid (H3.out.grown G4 (by simp))
  have d1 := H1.out.cell 0
  have A4 := Lib.hid A3
  have HS4 := Lib.hid (HS.out.up G4)
  have HG4 := Lib.hid G4
  generalize w1.heap.size = b4 at *
  have HC := Lib.hid (fun n => has_at HS.out HG4.out key n)
  rw [HX.out.2.2.2.2.1] at HC
  rw [Hq.out] at HC
  clear d0 d2 A3 G1 G3 G4 CW
  generalize (Z[pl]?).map toA = o at *
  go_quiet ((go_at_call 32; refine Calls.quiet_of_same (HC.out _)))
  clear HC y0 y1 d1
  generalize hw5 : w3.drewN _ = w5 at *
  have gd : w3.grownBy w5 none := by rw [← hw5]; exact only_drewN (grefl w3 none) _
  replace H0 := Lib.hid (H0.out.grown gd (by simp))
  replace H1 := Lib.hid (H1.out.grown gd (by simp))
  replace H2 := Lib.hid (H2.out.grown gd (by simp))
  replace H3 := Lib.hid (H3.out.grown gd (by simp))
  replace HS4 := Lib.hid (HS4.out.up gd)
  replace HG4 := Lib.hid (gnone HG4.out gd)
  have A5 := Lib.hid ((A4.out.grown gd (by simp)).alloc (.cells (newP key value) 33))
  have d0 := H0.out.cell 0
  have d1 := H1.out.cell 0
  have d2 := H2.out.cell 0
  have d3 := (H3.out.alloc (.cells (newP key value) 33)).cell 0
  clear hw5 gd A4
  have G6 := World.grownBy_alloc w5 (.cells (newP key value) 33) none
  have ha : ¬ Foot p Z w5.heap.size := fun e => by have := (HS4.out.at_.foot_lt e).2; omega
  have HI := Lib.hid (insert_any (HS4.out.up G6) key value pl HX.out.2.2.2.2.2.1 (nd_new (Blk.new w5 _ _)) ha HX.out.2.2.2.2.2.2.2 HX.out.2.1 HX.out.2.2.1 HX.out.2.2.2.1)
  have Ha := Lib.hid ha
  clear G6 ha
  unfold newP at d3 A5 HI
  go_wp2_with (refine wpList_load_arr A5.out (befV_size _ _ _) rfl (.tmp 4) rfl rfl ?_)
  refine HI.out.mono ?_
  rintro e w7 ⟨rfl, K1, K2, K3⟩
  go_wp2_with fail
  go_end0
  have hs : w'.heap.size ≤ w5.heap.size := HG4.out.size
  rw [← Hq.out] at K1 K2
  refine ⟨rfl, w5.heap.size, hs, skz_ins HS.out HX.out.2.2.2.2.2.2.1 HX.out.2.2.1 HX.out.2.2.2.1 HX.out.2.2.2.2.1 Ha.out (Nat.le_trans HX.out.1 hs) K1 K2, ?_⟩
  exact ⟨K3.os.trans HG4.out.os, K3.tape.trans HG4.out.tape, K3.output.trans HG4.out.output, Nat.le_trans hs (Nat.le_trans (by simp) K3.size), fun k hk hF => (K3.block k (by have := HG4.out.size; simp; omega) (fun h => h.elim hF (fun e => by omega))).trans (((Below.heap_alloc w5 _ k (by omega))).trans (HG4.out.block k hk (by simp)))⟩

set_option maxRecDepth 100000 in
set_option maxHeartbeats 2000000 in
theorem putstep_nil {w : World} (b0 : Nat) (x1 x2 x3 : Value) (B0 : Blk w b0 24 #[.pointer none]) :
    Calls Tryz.prog 29 #[.pointer (some ⟨b0, 0, none⟩), x1, x2, x3] w fun e w' => e = gaveUp 1 ∧ w.grownBy w' none := by
  have d0 := B0.cell 0
  have AK := Lib.hid (ask_nil w)
  clear B0
  go_enter Tryz.func29, Tryz.ntmps29
  go_wp2_with fail
  refine AK.out.mono ?_
  rintro e w' ⟨rfl, rfl⟩
  exact ⟨rfl, rfl, grefl _ _⟩
set_option maxRecDepth 100000 in
set_option maxHeartbeats 2000000 in
theorem putstep_froz {p : Nat} {w : World} (b0 : Nat) (x1 x2 x3 : Value) (B0 : Blk w b0 24 #[.pointer (some ⟨p, 0, none⟩)]) (c27 : w.cell? ⟨p, 27, none⟩ = some (.bool true)) :
    Calls Tryz.prog 29 #[.pointer (some ⟨b0, 0, none⟩), x1, x2, x3] w fun e w' => e = gaveUp 30 ∧ w.grownBy w' none := by
  have d0 := B0.cell 0
  have AK := Lib.hid (ask_froz w c27)
  clear B0 c27
  go_enter Tryz.func29, Tryz.ntmps29
  go_wp2_with fail
  refine AK.out.mono ?_
  rintro e w' ⟨rfl, rfl⟩
  exact ⟨rfl, rfl, grefl _ _⟩
set_option maxRecDepth 100000 in
set_option maxHeartbeats 2000000 in
theorem putstep_long {p : Nat} {w : World} (b0 b1 b2 : Nat) (x3 : Value) (key value : ByteArray) (B0 : Blk w b0 24 #[.pointer (some ⟨p, 0, none⟩)]) (B1 : Blk w b1 9 #[.string key]) (B2 : Blk w b2 9 #[.string value]) (c27 : w.cell? ⟨p, 27, none⟩ = some (.bool false)) (hl : 65536 < key.size ∨ 65536 < value.size) :
    Calls Tryz.prog 29 #[.pointer (some ⟨b0, 0, none⟩), .pointer (some ⟨b1, 0, none⟩), .pointer (some ⟨b2, 0, none⟩), x3] w fun e w' => e = gaveUp 2 ∧ w.grownBy w' none := by
  have d0 := B0.cell 0
  have d1 := B1.cell 0
  have d2 := B2.cell 0
  have AK := Lib.hid (ask_ok w c27)
  clear B0 B1 B2 c27
  by_cases h1 : 65536 < key.size
  · have g1 : (65536 : Int) < (key.size : Int) := by omega
    clear hl
    go_enter Tryz.func29, Tryz.ntmps29
    go_wp2_with fail
    refine AK.out.mono ?_
    rintro e w' ⟨rfl, rfl⟩
    go_wp2_with fail
    exact ⟨rfl, rfl, grefl _ _⟩
  · have g1 : ¬ (65536 : Int) < (key.size : Int) := by omega
    have g2 : (65536 : Int) < (value.size : Int) := by omega
    clear hl
    go_enter Tryz.func29, Tryz.ntmps29
    go_wp2_with fail
    refine AK.out.mono ?_
    rintro e w' ⟨rfl, rfl⟩
    go_wp2_with fail
    exact ⟨rfl, rfl, grefl _ _⟩
set_option maxRecDepth 100000 in
set_option maxHeartbeats 4000000 in
theorem putstep_there {B p : Nat} {s : S10} {w : World} {Z : List Z10} (b0 b1 b2 : Nat) (x3 : Value) (key value : ByteArray) (B0 : Blk w b0 24 #[.pointer (some ⟨p, 0, none⟩)]) (B1 : Blk w b1 9 #[.string key]) (B2 : Blk w b2 9 #[.string value])
    (h : SkZ B p w s Z) (hL : s.L.length ≤ 100000) (hf : s.frozen = false) (hk : key.size ≤ 65536) (hv : value.size ≤ 65536) (hno : hasL s.L key = true) :
    Calls Tryz.prog 29 #[.pointer (some ⟨b0, 0, none⟩), .pointer (some ⟨b1, 0, none⟩), .pointer (some ⟨b2, 0, none⟩), x3] w fun e w' => e = gaveUp 23 ∧ w.grownBy w' none := by
  have CW := Lib.hid (way_any h key hL)
  have hpl := h.pl_le key
  have c27 := h.at_.hd.froz
  rw [hf] at c27
  have AK := Lib.hid (ask_ok w c27)
  have d0 := B0.cell 0
  have d1 := B1.cell 0
  have d2 := B2.cell 0
  have H1 := Lib.hid B1
  have HS := Lib.hid h
  have g1 : ¬ (65536 : Int) < (key.size : Int) := by omega
  have g2 : ¬ (65536 : Int) < (value.size : Int) := by omega
  have HX := Lib.hid (And.intro hpl hno)
  clear h hL hk hv hno hpl c27 hf B0 B1 B2
  go_enter Tryz.func29, Tryz.ntmps29
  go_wp2_with fail
  refine AK.out.mono ?_
  rintro e w' ⟨rfl, rfl⟩
  go_wp2_with fail
  refine CW.out.mono ?_
  rintro e w1 ⟨rfl, G1⟩
  generalize hq : placeL s.L key = pl at *
  have Hq := Lib.hid hq
  clear hq
  go_upto_region 4 with (refine wpList_store_arr (Blk.new w1 _ _) rfl (befV_size p Z pl) (befV_one p Z pl) rfl (.tmp 4) (.tmp 21) rfl rfl rfl ?_; intro w3 A3 G3; have G4 := grown_new (gnone G1 (World.grownBy_alloc w1 _ none)) G3 G1.size; obtain ⟨y0, y1⟩ := HS.out.ahead (g := w1.heap.size) HX.out.1 G4 A3)
  replace H1 := Lib.hid (H1.out.grown G4 (by simp))
  have d1 := H1.out.cell 0
  have HG4 := Lib.hid G4
  generalize w1.heap.size = b4 at *
  have HC := Lib.hid (fun n => has_at HS.out HG4.out key n)
  rw [HX.out.2] at HC
  rw [Hq.out] at HC
  clear d0 d2 A3 G1 G3 G4 CW
  generalize (Z[pl]?).map toA = o at *
  go_quiet ((go_at_call 32; refine Calls.quiet_of_same (HC.out _)))
  clear HC y0 y1 d1
  generalize hw5 : w3.drewN _ = w5 at *
  have gd : w3.grownBy w5 none := by rw [← hw5]; exact only_drewN (grefl w3 none) _
  have G5 := gnone HG4.out gd
  clear hw5 gd
  go_wp2_with fail
  exact ⟨rfl, rfl, G5⟩
end Go.Proofs.YtmagkkkecihgmaaGreat
