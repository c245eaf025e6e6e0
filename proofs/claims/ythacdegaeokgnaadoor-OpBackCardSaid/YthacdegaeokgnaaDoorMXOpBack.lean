/-
  OpBack: what is put is got as it was; a changed first byte is another act, or none.
-/
import Derived.Test.YthacdegaeokgnaaDoorM7
import Derived.Test.YthacdegaeokgnaaDoorM6
import Derived.Test.YthacdegaeokgnaaDoorM3
namespace Go.Proofs.YthacdegaeokgnaaDoor
open Go.RowKit

/-- An act in a block of its own, and all that was there. -/
structure One6 (w : World) (kd : Int) (nu : Nat) (it : Int) (tx : ByteArray) (W : World) : Prop where
  a : Blk W w.heap.size 24 (actC kd nu it tx)
  below : Below w.heap.size w W
section
variable {w W W' : World} {kd : Int} {nu : Nat} {it : Int} {tx : ByteArray}
theorem One6.on (h : One6 w kd nu it tx W) (hb : Below W.heap.size W W') : One6 w kd nu it tx W' := ⟨h.a.below hb h.a.lt, h.below.trans (hb.mono h.below.size)⟩
theorem One6.alloc (h : One6 w kd nu it tx W) (o : Obj) : One6 w kd nu it tx (W.alloc o) := h.on ((Below.refl _ W).alloc (Nat.le_refl _) _)
theorem One6.drew (h : One6 w kd nu it tx W) : One6 w kd nu it tx W.drew := ⟨h.a, h.below.drew⟩
theorem One6.put4 (h : One6 w kd nu it tx W) {p : Nat} (hp : w.heap.size + 1 ≤ p) (v0 v1 v2 v3 : Value) :
    One6 w kd nu it tx ((((W.setCell ⟨p, 0, none⟩ v0).setCell ⟨p, 1, none⟩ v1).setCell ⟨p, 2, none⟩ v2).setCell ⟨p, 3, none⟩ v3) :=
  ⟨blk_far4 h.a (by omega) _ _ _ _, below_set4 h.below (by omega) _ _ _ _⟩
end
/-- What a Get told, in one value or in two. -/
def SlotG {T : World → World → Prop} (bs : List UInt8) : Slot T := Slot.sort fun v => ∃ kd nu it tx er, v = .tuple #[actV kd nu it tx, .int .i64 er] ∧ ActIn kd nu it tx ∧ GotA bs (a6 kd nu it tx) er
def SlotG0 {T : World → World → Prop} (bs : List UInt8) : Slot T := Slot.sort fun v => ∃ kd nu it tx er, v = actV kd nu it tx ∧ ActIn kd nu it tx ∧ GotA bs (a6 kd nu it tx) er
def SlotG1 {T : World → World → Prop} (bs : List UInt8) : Slot T := Slot.sort fun v => ∃ kd nu it tx er, v = .int .i64 er ∧ ActIn kd nu it tx ∧ GotA bs (a6 kd nu it tx) er
/-- Bytes in a row of the call's own. -/
def SlotB (B : Nat) (l : List UInt8) : Slot (fun w w' => Below w.heap.size w w') := ⟨fun v w => Byt w B 5 v l, fun _ _ _ h hT => byt_below h hT, false⟩
def SlotNA (B : Nat) : Slot (fun w w' => Below w.heap.size w w') := ⟨fun v w => ∃ p, v = .pointer (some ⟨p, 0, none⟩) ∧ B ≤ p ∧ Blk w p 24 (actC 0 0 0 ⟨#[]⟩), fun _ _ _ h hT => by
  obtain ⟨p, h1, h2, h3⟩ := h
  exact ⟨p, h1, h2, h3.below hT h3.lt⟩, true⟩
theorem tail_cut (c : UInt8) (l : List UInt8) (n : Nat) (hn : n = l.length + 1) : (⟨(c :: l).toArray⟩ : ByteArray).extract 1 n = ⟨l.toArray⟩ := by
  apply ByteArray.ext
  apply Array.toList_inj.1
  rw [cut_list, hn]
  simp
theorem xor_byte (c d : UInt8) (h : d ≠ 0) : c ^^^ d ≠ c := by
  intro e
  apply h
  have : c ^^^ (c ^^^ d) = c ^^^ c := by rw [e]
  rwa [← UInt8.xor_assoc, UInt8.xor_self, UInt8.zero_xor] at this
theorem xor_changed (c : UInt8) (z : Int) (hz : ¬ z % 256 = 0) : ∃ d : UInt8, bits .xor .u8 (c.toNat : Int) (z % 256) = (d.toNat : Int) ∧ d ≠ c := by
  obtain ⟨y, hy⟩ : ∃ y : UInt8, (y.toNat : Int) = z % 256 := ⟨UInt8.ofNat (z % 256).toNat, by simp; omega⟩
  refine ⟨c ^^^ y, ?_, xor_byte c y (fun h => hz (by rw [← hy, h]; rfl))⟩
  rw [← hy]
  show IntKind.u8.wrap ((BitVec.ofInt 8 (c.toNat : Int) ^^^ BitVec.ofInt 8 (y.toNat : Int)).toNat : Int) = _
  have e : ∀ x : UInt8, BitVec.ofInt 8 (x.toNat : Int) = x.toBitVec := fun x => by
    apply BitVec.eq_of_toNat_eq
    rw [BitVec.ofInt_natCast, BitVec.toNat_ofNat]
    exact Nat.mod_eq_of_lt (UInt8.toNat_lt x)
  rw [e, e]
  have h : (c.toBitVec ^^^ y.toBitVec).toNat = (c ^^^ y).toNat := rfl
  have h2 := UInt8.toNat_lt (c ^^^ y)
  rw [h]
  generalize (c ^^^ y).toNat = q at *
  simp [IntKind.wrap, IntKind.bits, IntKind.signed]
  omega
/-- A changed first byte tells another act, or none. -/
theorem back_other {kd : Int} {nu : Nat} {it : Int} {tx : ByteArray} {kd' : Int} {nu' : Nat} {it' : Int} {tx' : ByteArray} {er : Int} {c d : UInt8} {l : List UInt8} (hp : putAL (a6 kd nu it tx) = c :: l) (hd : d ≠ c) (hg : GotA (d :: l) (a6 kd' nu' it' tx') er) :
    er ≠ 0 ∨ (a6 kd nu it tx).same (a6 kd' nu' it' tx') = false := by
  rcases hg with ⟨h1, h2, h3⟩ | ⟨h1, _⟩
  · refine Or.inr ?_
    rw [← Bool.not_eq_true, A6.same_iff]
    intro e
    rw [← e, hp] at h3
    exact hd (List.cons.inj h3).1.symm
  · exact Or.inl (by rw [h1]; decide)

set_option maxRecDepth 100000 in
set_option maxHeartbeats 8000000 in
theorem opback_long (kd : Int) (nu : Nat) (it : Int) (tx : ByteArray) (_I : ActIn kd nu it tx) (_zt : tx.size ≤ 140737488351232) (by_ : Int) (_hby : (Lit.int .i64 by_).wf = true) (w : World) (hL : LaidO w) (h1 : (3000 : Int) < (tx.size : Int)) :
    Calls Tryd.prog 7 #[actV kd nu it tx, .int .i64 by_] w fun e w' => e = .returned (.bool true) ∧ Below w.heap.size w w' := by
  unfold actV
  have S0 : One6 w kd nu it tx (w.alloc (.cells #[.int .i64 kd, .float .f64 nu, .int .i64 it, .string tx] 24)) := ⟨Blk.new w _ _, (Below.refl _ w).alloc (Nat.le_refl _) _⟩
  have hst := run_sto_f64
  go_enter Tryd.func7, Tryd.ntmps7
  go_wp2_with fail
  generalize w.alloc (.cells #[.int .i64 kd, .float .f64 nu, .int .i64 it, .string tx] 24) = w0 at S0 ⊢
  have S0 := Lib.hid S0
  refine (oalive_any _ (hL.on S0.out.below)).mono ?_
  rintro e w9 ⟨rfl, g⟩
  have S9 := Lib.hid (S0.out.on g)
  go_wp2_with fail
  go_ret
  exact ⟨rfl, S9.out.below⟩

set_option maxRecDepth 100000 in
set_option maxHeartbeats 8000000 in
theorem opback_none (kd : Int) (nu : Nat) (it : Int) (tx : ByteArray) (I : ActIn kd nu it tx) (_zt : tx.size ≤ 140737488351232) (by_ : Int) (_hby : (Lit.int .i64 by_).wf = true) (w : World) (hL : LaidO w) (h1 : ¬ (3000 : Int) < (tx.size : Int)) (hr : rightA (a6 kd nu it tx) = false) :
    Calls Tryd.prog 7 #[actV kd nu it tx, .int .i64 by_] w fun e w' => e = .returned (.bool true) ∧ Below w.heap.size w w' := by
  have P := fun W => Lib.hid (oput_any kd nu it tx I W)
  rw [hr] at P
  simp only [Bool.false_eq_true, if_false] at P
  simp only [actV] at P
  unfold actV
  have S0 : One6 w kd nu it tx (w.alloc (.cells #[.int .i64 kd, .float .f64 nu, .int .i64 it, .string tx] 24)) := ⟨Blk.new w _ _, (Below.refl _ w).alloc (Nat.le_refl _) _⟩
  have hst := run_sto_f64
  go_enter Tryd.func7, Tryd.ntmps7
  go_wp2_with fail
  generalize w.alloc (.cells #[.int .i64 kd, .float .f64 nu, .int .i64 it, .string tx] 24) = w0 at S0 ⊢
  refine (P _).out.mono ?_
  rintro e w1 ⟨rfl, g⟩
  have S1 := S0.on g
  clear S0 g
  obtain ⟨a0, a1, a2, a3⟩ := act_cells S1.a
  have S1 := Lib.hid S1
  go_wp2_with fail
  refine (oalive_any _ (hL.on S1.out.below)).mono ?_
  rintro e w9 ⟨rfl, g⟩
  have S9 := Lib.hid (S1.out.on g)
  go_wp2_with fail
  go_ret
  exact ⟨rfl, S9.out.below⟩

theorem putAL_len {a : A6} (_w : Wf6 a) (h : rightA a = true) : (putAL a).length ≤ 1100 := by
  unfold putAL
  unfold rightA at h
  split
  · next h0 =>
    rw [if_pos h0] at h
    have := (of_decide_eq_true h).2.1
    split <;> simp [be_length] <;> omega
  · split
    · simp [be_length]
    · split <;> simp [be_length]
set_option maxRecDepth 100000 in
set_option maxHeartbeats 8000000 in
theorem opback_all (kd : Int) (nu : Nat) (it : Int) (tx : ByteArray) (I : ActIn kd nu it tx) (_zt : tx.size ≤ 140737488351232) (by_ : Int) (_hby : (Lit.int .i64 by_).wf = true) (w : World) (hL : LaidO w) (h1 : ¬ (3000 : Int) < (tx.size : Int)) (hr : rightA (a6 kd nu it tx) = true) (c0 : UInt8) (l : List UInt8) (hp : putAL (a6 kd nu it tx) = c0 :: l) :
    Calls Tryd.prog 7 #[actV kd nu it tx, .int .i64 by_] w fun e w' => e = .returned (.bool true) ∧ Below w.heap.size w w' := by
  have P := fun W => Lib.hid (oput_any kd nu it tx I W)
  rw [hr, hp] at P
  simp only [if_true] at P
  simp only [actV] at P
  have hsz : (⟨(c0 :: l).toArray⟩ : ByteArray).size = l.length + 1 := size_mk _
  have hlen : l.length ≤ 2000 := by
    have := putAL_len I.wf6 hr
    rw [hp] at this
    simp at this
    omega
  have G := fun W => Lib.hid (oget_any ⟨(c0 :: l).toArray⟩ (by rw [hsz]; omega) W)
  have hG := GotA.ok hr hp
  unfold actV
  have S0 : One6 w kd nu it tx (w.alloc (.cells #[.int .i64 kd, .float .f64 nu, .int .i64 it, .string tx] 24)) := ⟨Blk.new w _ _, (Below.refl _ w).alloc (Nat.le_refl _) _⟩
  have hst := run_sto_f64
  go_enter Tryd.func7, Tryd.ntmps7
  go_wp2_with fail
  generalize w.alloc (.cells #[.int .i64 kd, .float .f64 nu, .int .i64 it, .string tx] 24) = w0 at S0 ⊢
  refine (P _).out.mono ?_
  rintro e w1 ⟨rfl, g⟩
  have S1 := S0.on g
  clear S0 g
  obtain ⟨a0, a1, a2, a3⟩ := act_cells S1.a
  have S1 := Lib.hid S1
  go_wp2_with fail
  refine (G _).out.mono ?_
  rintro e w2 ⟨⟨kdx, nux, itx, txx, er, rfl, Ix, hx⟩, g⟩
  obtain ⟨he, hxa⟩ := GotA.same I Ix hG hx
  subst he
  have HX := Lib.hid ((A6.same_iff _ _).2 hxa)
  have S2 := Lib.hid (S1.out.on g)
  have BX := Blk.new w2 24 #[.int .i64 kdx, .float .f64 nux, .int .i64 itx, .string txx]
  have S3 := Lib.hid (S2.out.alloc (.cells #[.int .i64 kdx, .float .f64 nux, .int .i64 itx, .string txx] 24))
  clear S1 S2 g hx hxa
  obtain ⟨a0, a1, a2, a3⟩ := act_cells S3.out.a
  have SA := fun W => Lib.hid (osame_any kd nu it tx I kdx nux itx txx Ix W)
  rw [HX.out] at SA
  simp only [actV] at SA ⊢
  go_wp2_with fail
  generalize w2.alloc (.cells #[.int .i64 kdx, .float .f64 nux, .int .i64 itx, .string txx] 24) = w3 at BX S3 a0 a1 a2 a3 ⊢
  refine (SA _).out.mono ?_
  rintro e w4 ⟨rfl, g⟩
  have S4 := Lib.hid (S3.out.on g)
  clear S3 g BX a0 a1 a2 a3 SA
  by_cases hz : by_ % 256 = 0
  · have hz0 : (by_ % 256 == 0) = true := by rw [beq_iff_eq]; exact hz
    go_wp2_with fail
    refine (oalive_any _ (hL.on S4.out.below)).mono ?_
    rintro e w9 ⟨rfl, g⟩
    have S9 := Lib.hid (S4.out.on g)
    go_wp2_with fail
    go_ret
    exact ⟨rfl, S9.out.below⟩
  · have hz0 : (by_ % 256 == 0) = false := by rw [beq_eq_false_iff_ne]; exact hz
    go_wp2_with fail
    obtain ⟨d0, hd0, hdc⟩ : ∃ d0 : UInt8, bits .xor .u8 (c0.toNat : Int) (by_ % 256) = (d0.toNat : Int) ∧ d0 ≠ c0 := xor_changed c0 by_ hz
    have HD := Lib.hid hd0
    have hpos : (0 : Int) < ((l.length : Int) + 1) := by omega
    have hpos1 : (1 : Int) ≤ ((l.length : Int) + 1) := by omega
    clear hd0 hz hz0
    refine wp_region_ord1 (fun W => One6 w kd nu it tx W) (fun w w' => Below w.heap.size w w') [Slot.is (.string ⟨(c0 :: l).toArray⟩), Slot.is (.int .u8 (c0.toNat : Int)), Slot.is (.int .i64 by_), Slot.is (.int .u8 (by_ % 256)), Slot.is (.int .u8 (d0.toNat : Int)), SlotB w.heap.size [d0], Slot.is (.string ⟨[d0].toArray⟩), Slot.is (.string ⟨(c0 :: l).toArray⟩), Slot.is (.string ⟨l.toArray⟩), Slot.is (.string ⟨(d0 :: l).toArray⟩), SlotG (d0 :: l), SlotG (d0 :: l), SlotG0 (d0 :: l), SlotG1 (d0 :: l), SlotNA (w.heap.size + 1)] 15 2 13 (by decide) (by kernel_rfl) (fun _ _ h => Below.size h) (by kernel_rfl) (by kernel_rfl) (by kernel_rfl) rfl (by decide) S4.out.drew (fun i hi => ?_) (fun a w5 J => ?_) (fun a w5 J => ?_)
    · clear hst
      rcases i with _ | _ | _ | _ | _ | _ | _ | _ | _ | _ | _ | _ | _ | _ | _ | i
      · refine ordOb_at (o := _) rfl rfl (fun a W hC hF hD => ?_)
        have g5 : a.tmps[5]? = some (.string ⟨(c0 :: l).toArray⟩) := hF 5 _ (by kernel_rfl) rfl
        unfold frees
        go_simp
        exact ⟨hC, Below.refl _ _, rfl, fun h => by cases h⟩
      · refine ordOb_at (o := _) rfl rfl (fun a W hC hF hD => ?_)
        have g51 : a.tmps[51]? = some (.string ⟨(c0 :: l).toArray⟩) := by
          obtain ⟨v, h1, h2⟩ := hD 0 51 (by kernel_rfl) (by kernel_rfl)
          rw [h1]
          exact congrArg some h2
        unfold frees
        go_simp
        exact ⟨hC, Below.refl _ _, rfl, fun h => by cases h⟩
      · refine ordOb_at (o := _) rfl rfl (fun a W hC hF hD => ?_)
        have g1 : a.tmps[1]? = some (.int .i64 by_) := hF 1 _ (by kernel_rfl) rfl
        unfold frees
        go_simp
        exact ⟨hC, Below.refl _ _, rfl, fun h => by cases h⟩
      · refine ordOb_at (o := _) rfl rfl (fun a W hC hF hD => ?_)
        have g53 : a.tmps[53]? = some (.int .i64 by_) := by
          obtain ⟨v, h1, h2⟩ := hD 2 53 (by kernel_rfl) (by kernel_rfl)
          rw [h1]
          exact congrArg some h2
        unfold frees
        go_simp
        exact ⟨hC, Below.refl _ _, rfl, fun h => by cases h⟩
      · refine ordOb_at (o := _) rfl rfl (fun a W hC hF hD => ?_)
        have g52 : a.tmps[52]? = some (.int .u8 (c0.toNat : Int)) := by
          obtain ⟨v, h1, h2⟩ := hD 1 52 (by kernel_rfl) (by kernel_rfl)
          rw [h1]
          exact congrArg some h2
        have g54 : a.tmps[54]? = some (.int .u8 (by_ % 256)) := by
          obtain ⟨v, h1, h2⟩ := hD 3 54 (by kernel_rfl) (by kernel_rfl)
          rw [h1]
          exact congrArg some h2
        unfold frees
        go_simp
        exact ⟨hC, Below.refl _ _, congrArg (Value.int .u8) HD.out, fun h => by cases h⟩
      · refine ordOb_at (o := _) rfl rfl (fun a W hC hF hD => ?_)
        have g55 : a.tmps[55]? = some (.int .u8 (d0.toNat : Int)) := by
          obtain ⟨v, h1, h2⟩ := hD 4 55 (by kernel_rfl) (by kernel_rfl)
          rw [h1]
          exact congrArg some h2
        unfold frees
        go_simp
        have BY := Byt.one W w.heap.size (One6.below hC).size 5 d0
        simp only [b8] at BY
        exact ⟨One6.alloc hC _, (Below.refl _ _).alloc (Nat.le_refl _) _, BY, fun h => by cases h⟩
      · refine ordOb_at (o := _) rfl rfl (fun a W hC hF hD => ?_)
        obtain ⟨v56, g56, hb56⟩ := hD 5 56 (by kernel_rfl) (by kernel_rfl)
        have hb56 : Byt W w.heap.size 5 v56 [d0] := hb56
        have hcv := hb56.string (P := Tryd.prog) (src := 51) (dst := 9) Tryd.underlying51 Tryd.underlying5 Tryd.underlying9
        unfold frees
        go_simp
        exact ⟨hC, Below.refl _ _, rfl, fun h => by cases h⟩
      · refine ordOb_at (o := _) rfl rfl (fun a W hC hF hD => ?_)
        have g5 : a.tmps[5]? = some (.string ⟨(c0 :: l).toArray⟩) := hF 5 _ (by kernel_rfl) rfl
        unfold frees
        go_simp
        exact ⟨hC, Below.refl _ _, rfl, fun h => by cases h⟩
      · refine ordOb_at (o := _) rfl rfl (fun a W hC hF hD => ?_)
        have g58 : a.tmps[58]? = some (.string ⟨(c0 :: l).toArray⟩) := by
          obtain ⟨v, h1, h2⟩ := hD 7 58 (by kernel_rfl) (by kernel_rfl)
          rw [h1]
          exact congrArg some h2
        unfold frees
        go_simp
        exact ⟨hC, Below.refl _ _, congrArg Value.string (tail_cut c0 l _ (by simp)), fun h => by cases h⟩
      · refine ordOb_at (o := _) rfl rfl (fun a W hC hF hD => ?_)
        have g57 : a.tmps[57]? = some (.string ⟨[d0].toArray⟩) := by
          obtain ⟨v, h1, h2⟩ := hD 6 57 (by kernel_rfl) (by kernel_rfl)
          rw [h1]
          exact congrArg some h2
        have g59 : a.tmps[59]? = some (.string ⟨l.toArray⟩) := by
          obtain ⟨v, h1, h2⟩ := hD 8 59 (by kernel_rfl) (by kernel_rfl)
          rw [h1]
          exact congrArg some h2
        have hcat := run_cat [d0] l (by simp) (by omega) W
        unfold frees
        go_simp
        exact ⟨hC, Below.refl _ _, rfl, fun h => by cases h⟩
      · refine ordOb_at (o := _) rfl rfl (fun a W hC hF hD => ?_)
        have g60 : a.tmps[60]? = some (.string ⟨(d0 :: l).toArray⟩) := by
          obtain ⟨v, h1, h2⟩ := hD 9 60 (by kernel_rfl) (by kernel_rfl)
          rw [h1]
          exact congrArg some h2
        unfold frees
        go_simp
        refine ⟨rfl, (oget_any ⟨(d0 :: l).toArray⟩ (by rw [size_mk]; simp; omega) W).mono ?_⟩
        rintro e W2 ⟨⟨kd, nu, it, tx, er, rfl, hv, hx⟩, g⟩
        rw [mk_data] at hx
        exact ⟨_, rfl, One6.on hC g, g, kd, nu, it, tx, er, rfl, hv, hx⟩
      · refine ordOb_at (o := _) rfl rfl (fun a W hC hF hD => ?_)
        obtain ⟨_, g61, kd61, nu61, it61, tx61, er61, rfl, IV61, hx61⟩ := hD 10 61 (by kernel_rfl) (by kernel_rfl)
        simp only [actV] at g61
        unfold frees
        go_simp
        exact ⟨hC, Below.refl _ _, ⟨_, _, _, _, _, rfl, IV61, hx61⟩, fun h => by cases h⟩
      · refine ordOb_at (o := _) rfl rfl (fun a W hC hF hD => ?_)
        obtain ⟨_, g50, kd50, nu50, it50, tx50, er50, rfl, IV50, hx50⟩ := hD 11 50 (by kernel_rfl) (by kernel_rfl)
        simp only [actV] at g50
        unfold frees
        go_simp
        exact ⟨hC, Below.refl _ _, ⟨_, _, _, _, _, rfl, IV50, hx50⟩, fun h => by cases h⟩
      · refine ordOb_at (o := _) rfl rfl (fun a W hC hF hD => ?_)
        obtain ⟨_, g50, kd50, nu50, it50, tx50, er50, rfl, IV50, hx50⟩ := hD 11 50 (by kernel_rfl) (by kernel_rfl)
        simp only [actV] at g50
        unfold frees
        go_simp
        exact ⟨hC, Below.refl _ _, ⟨_, _, _, _, _, rfl, IV50, hx50⟩, fun h => by cases h⟩
      · refine ordOb_at (o := _) rfl rfl (fun a W hC hF hD => ?_)
        unfold frees
        go_simp
        exact ⟨One6.alloc hC _, (Below.refl _ _).alloc (Nat.le_refl _) _, ⟨_, rfl, One6.a hC |>.lt, Blk.new W _ _⟩, fun _ => ⟨_, rfl, Nat.le_refl _, by simp⟩⟩
      · exact absurd hi (by omega)
    · obtain ⟨vs, hln, rfl, hC, hS, hap⟩ := J.all_ (by kernel_rfl) (ds := [some 51, some 52, some 53, some 54, some 55, some 56, some 57, some 58, some 59, some 60, some 61, some 50, some 62, some 63, some 9]) (by kernel_rfl)
      clear J
      obtain ⟨y0, vs, rfl⟩ := List.exists_cons_of_length_eq_add_one hln
      replace hln := Nat.succ.inj hln
      obtain ⟨y1, vs, rfl⟩ := List.exists_cons_of_length_eq_add_one hln
      replace hln := Nat.succ.inj hln
      obtain ⟨y2, vs, rfl⟩ := List.exists_cons_of_length_eq_add_one hln
      replace hln := Nat.succ.inj hln
      obtain ⟨y3, vs, rfl⟩ := List.exists_cons_of_length_eq_add_one hln
      replace hln := Nat.succ.inj hln
      obtain ⟨y4, vs, rfl⟩ := List.exists_cons_of_length_eq_add_one hln
      replace hln := Nat.succ.inj hln
      obtain ⟨y5, vs, rfl⟩ := List.exists_cons_of_length_eq_add_one hln
      replace hln := Nat.succ.inj hln
      obtain ⟨y6, vs, rfl⟩ := List.exists_cons_of_length_eq_add_one hln
      replace hln := Nat.succ.inj hln
      obtain ⟨y7, vs, rfl⟩ := List.exists_cons_of_length_eq_add_one hln
      replace hln := Nat.succ.inj hln
      obtain ⟨y8, vs, rfl⟩ := List.exists_cons_of_length_eq_add_one hln
      replace hln := Nat.succ.inj hln
      obtain ⟨y9, vs, rfl⟩ := List.exists_cons_of_length_eq_add_one hln
      replace hln := Nat.succ.inj hln
      obtain ⟨y10, vs, rfl⟩ := List.exists_cons_of_length_eq_add_one hln
      replace hln := Nat.succ.inj hln
      obtain ⟨y11, vs, rfl⟩ := List.exists_cons_of_length_eq_add_one hln
      replace hln := Nat.succ.inj hln
      obtain ⟨y12, vs, rfl⟩ := List.exists_cons_of_length_eq_add_one hln
      replace hln := Nat.succ.inj hln
      obtain ⟨y13, vs, rfl⟩ := List.exists_cons_of_length_eq_add_one hln
      replace hln := Nat.succ.inj hln
      obtain ⟨y14, vs, rfl⟩ := List.exists_cons_of_length_eq_add_one hln
      replace hln := Nat.succ.inj hln
      obtain rfl := List.eq_nil_of_length_eq_zero hln
      have q0 : y0 = .string ⟨(c0 :: l).toArray⟩ := hS 0 (by decide)
      have q1 : y1 = .int .u8 (c0.toNat : Int) := hS 1 (by decide)
      have q2 : y2 = .int .i64 by_ := hS 2 (by decide)
      have q3 : y3 = .int .u8 (by_ % 256) := hS 3 (by decide)
      have q4 : y4 = .int .u8 (d0.toNat : Int) := hS 4 (by decide)
      have q6 : y6 = .string ⟨[d0].toArray⟩ := hS 6 (by decide)
      have q7 : y7 = .string ⟨(c0 :: l).toArray⟩ := hS 7 (by decide)
      have q8 : y8 = .string ⟨l.toArray⟩ := hS 8 (by decide)
      have q9 : y9 = .string ⟨(d0 :: l).toArray⟩ := hS 9 (by decide)
      obtain ⟨kd10, nu10, it10, tx10, er10, q10, IV10, hx10⟩ := hS 10 (by decide)
      have q10 : y10 = .tuple #[actV kd10 nu10 it10 tx10, .int .i64 er10] := q10
      obtain ⟨kd11, nu11, it11, tx11, er11, q11, IV11, hx11⟩ := hS 11 (by decide)
      have q11 : y11 = .tuple #[actV kd11 nu11 it11 tx11, .int .i64 er11] := q11
      obtain ⟨kd12, nu12, it12, tx12, er12, q12, IV12, hx12⟩ := hS 12 (by decide)
      have q12 : y12 = actV kd12 nu12 it12 tx12 := q12
      obtain ⟨kd13, nu13, it13, tx13, er13, q13, IV13, hx13⟩ := hS 13 (by decide)
      have q13 : y13 = .int .i64 er13 := q13
      obtain ⟨p14, q14, hp14, B14⟩ := hS 14 (by decide)
      have q14 : y14 = .pointer (some ⟨p14, 0, none⟩) := q14
      subst q0 q1 q2 q3 q4 q6 q7 q8 q9 q10 q11 q12 q13 q14
      clear hS hap
      simp only [fillT, List.setIfInBounds_toArray, List.set_cons_zero, List.set_cons_succ]
      simp only [actV]
      obtain ⟨e0, e1, e2, e3⟩ := act_cells B14
      have z0 := B14.frozen 0
      have z1 := B14.frozen 1
      have z2 := B14.frozen 2
      have z3 := B14.frozen 3
      refine wpAny_ready (rs := [15]) (by kernel_rfl) (by simp) ?_
      refine AllReady.cons rfl (fun K hK => ?_) AllReady.nil
      go_simp
      refine hK _ _ ?_
      clear hK K
      have S5 := One6.put4 hC (p := p14) (by omega) (.int .i64 kd12) (.float .f64 nu12) (.int .i64 it12) (.string tx12)
      have E5 := blk_set4 B14 (.int .i64 kd12) (.float .f64 nu12) (.int .i64 it12) (.string tx12)
      clear e0 e1 e2 e3 z0 z1 z2 z3 hC B14
      generalize World.setCell (World.setCell (World.setCell (World.setCell _ _ _) _ _) _ _) _ _ = w6 at S5 E5 ⊢
      refine wpAny_ready (rs := [16]) (by kernel_rfl) (by simp) ?_
      refine AllReady.cons rfl (fun K hK => ?_) AllReady.nil
      go_simp
      refine hK _ _ ?_
      clear hK K
      have SB := fun W => Lib.hid (osame_any kd nu it tx I kd12 nu12 it12 tx12 IV12 W)
      obtain ⟨rfl, _⟩ := GotA.same IV12 IV13 hx12 hx13
      have HO := Lib.hid (back_other hp hdc hx12)
      simp only [actV] at SB
      clear hx12 hx13 IV13
      refine wpAny_done (by kernel_rfl) ?_ _
      simp only [Exit.then]
      obtain ⟨a0, a1, a2, a3⟩ := act_cells S5.a
      obtain ⟨c0', c1', c2', c3'⟩ := act_cells E5
      go_wp2_with fail
      refine (oalive_any _ (hL.on S5.below)).mono ?_
      rintro e w7 ⟨rfl, g⟩
      have S7 := Lib.hid (S5.on g)
      have E7 := E5.below g E5.lt
      clear S5 E5 g a0 a1 a2 a3 c0' c1' c2' c3'
      obtain ⟨a0, a1, a2, a3⟩ := act_cells S7.out.a
      obtain ⟨c0', c1', c2', c3'⟩ := act_cells E7
      by_cases he : er12 = 0
      · have he0 : (er12 != 0) = false := by rw [bne_eq_false_iff_eq]; exact he
        have hf : (a6 kd nu it tx).same (a6 kd12 nu12 it12 tx12) = false := by
          rcases HO.out with h | h
          · exact absurd he h
          · exact h
        rw [hf] at SB
        have HE := Lib.hid he
        clear he
        go_wp2_with fail
        refine (SB _).out.mono ?_
        rintro e w8 ⟨rfl, g⟩
        have S8 := Lib.hid (S7.out.on g)
        go_wp2_with fail
        go_ret
        exact ⟨rfl, S8.out.below⟩
      · have he0 : (er12 != 0) = true := by rw [bne_iff_ne]; exact he
        have HE := Lib.hid he
        clear he
        go_wp2_with fail
        go_ret
        exact ⟨rfl, S7.out.below⟩
    · obtain ⟨vs, hln, rfl, hC, hS, hap⟩ := J.some_ (by kernel_rfl) (ds := [some 51, some 52, some 53, some 54, some 55, some 56, some 57, some 58, some 59, some 60, some 61, some 50, some 62, some 63, some 9]) (by kernel_rfl)
      clear J
      obtain ⟨y0, vs, rfl⟩ := List.exists_cons_of_length_eq_add_one hln
      replace hln := Nat.succ.inj hln
      obtain ⟨y1, vs, rfl⟩ := List.exists_cons_of_length_eq_add_one hln
      replace hln := Nat.succ.inj hln
      obtain ⟨y2, vs, rfl⟩ := List.exists_cons_of_length_eq_add_one hln
      replace hln := Nat.succ.inj hln
      obtain ⟨y3, vs, rfl⟩ := List.exists_cons_of_length_eq_add_one hln
      replace hln := Nat.succ.inj hln
      obtain ⟨y4, vs, rfl⟩ := List.exists_cons_of_length_eq_add_one hln
      replace hln := Nat.succ.inj hln
      obtain ⟨y5, vs, rfl⟩ := List.exists_cons_of_length_eq_add_one hln
      replace hln := Nat.succ.inj hln
      obtain ⟨y6, vs, rfl⟩ := List.exists_cons_of_length_eq_add_one hln
      replace hln := Nat.succ.inj hln
      obtain ⟨y7, vs, rfl⟩ := List.exists_cons_of_length_eq_add_one hln
      replace hln := Nat.succ.inj hln
      obtain ⟨y8, vs, rfl⟩ := List.exists_cons_of_length_eq_add_one hln
      replace hln := Nat.succ.inj hln
      obtain ⟨y9, vs, rfl⟩ := List.exists_cons_of_length_eq_add_one hln
      replace hln := Nat.succ.inj hln
      obtain ⟨y10, vs, rfl⟩ := List.exists_cons_of_length_eq_add_one hln
      replace hln := Nat.succ.inj hln
      obtain ⟨y11, vs, rfl⟩ := List.exists_cons_of_length_eq_add_one hln
      replace hln := Nat.succ.inj hln
      obtain ⟨y12, vs, rfl⟩ := List.exists_cons_of_length_eq_add_one hln
      replace hln := Nat.succ.inj hln
      obtain ⟨y13, vs, rfl⟩ := List.exists_cons_of_length_eq_add_one hln
      replace hln := Nat.succ.inj hln
      obtain ⟨y14, vs, rfl⟩ := List.exists_cons_of_length_eq_add_one hln
      replace hln := Nat.succ.inj hln
      obtain rfl := List.eq_nil_of_length_eq_zero hln
      have q0 : y0 = .string ⟨(c0 :: l).toArray⟩ := hS 0 (by decide) (by kernel_rfl)
      have q1 : y1 = .int .u8 (c0.toNat : Int) := hS 1 (by decide) (by kernel_rfl)
      have q2 : y2 = .int .i64 by_ := hS 2 (by decide) (by kernel_rfl)
      have q3 : y3 = .int .u8 (by_ % 256) := hS 3 (by decide) (by kernel_rfl)
      have q4 : y4 = .int .u8 (d0.toNat : Int) := hS 4 (by decide) (by kernel_rfl)
      have q6 : y6 = .string ⟨[d0].toArray⟩ := hS 6 (by decide) (by kernel_rfl)
      have q7 : y7 = .string ⟨(c0 :: l).toArray⟩ := hS 7 (by decide) (by kernel_rfl)
      have q8 : y8 = .string ⟨l.toArray⟩ := hS 8 (by decide) (by kernel_rfl)
      have q9 : y9 = .string ⟨(d0 :: l).toArray⟩ := hS 9 (by decide) (by kernel_rfl)
      obtain ⟨kd10, nu10, it10, tx10, er10, q10, IV10, hx10⟩ := hS 10 (by decide) (by kernel_rfl)
      have q10 : y10 = .tuple #[actV kd10 nu10 it10 tx10, .int .i64 er10] := q10
      obtain ⟨kd11, nu11, it11, tx11, er11, q11, IV11, hx11⟩ := hS 11 (by decide) (by kernel_rfl)
      have q11 : y11 = .tuple #[actV kd11 nu11 it11 tx11, .int .i64 er11] := q11
      obtain ⟨kd12, nu12, it12, tx12, er12, q12, IV12, hx12⟩ := hS 12 (by decide) (by kernel_rfl)
      have q12 : y12 = actV kd12 nu12 it12 tx12 := q12
      obtain ⟨p14, q14, hp14, B14⟩ := hS 14 (by decide) (by kernel_rfl)
      have q14 : y14 = .pointer (some ⟨p14, 0, none⟩) := q14
      subst q0 q1 q2 q3 q4 q6 q7 q8 q9 q10 q11 q12 q14
      clear hS hap
      simp only [fillT, List.setIfInBounds_toArray, List.set_cons_zero, List.set_cons_succ]
      simp only [actV]
      obtain ⟨e0, e1, e2, e3⟩ := act_cells B14
      have z0 := B14.frozen 0
      have z1 := B14.frozen 1
      have z2 := B14.frozen 2
      have z3 := B14.frozen 3
      refine wpAny_ready (rs := [13, 15]) (by kernel_rfl) (by simp) ?_
      refine AllReady.cons rfl (fun K hK => ?_) (AllReady.cons rfl (fun K hK => ?_) AllReady.nil)
      · go_simp
        refine hK _ _ ?_
        clear hK K
        refine wpAny_ready (rs := [15]) (by kernel_rfl) (by simp) ?_
        refine AllReady.cons rfl (fun K hK => ?_) AllReady.nil
        go_simp
        refine hK _ _ ?_
        clear hK K
        have S5 := One6.put4 hC (p := p14) (by omega) (.int .i64 kd12) (.float .f64 nu12) (.int .i64 it12) (.string tx12)
        have E5 := blk_set4 B14 (.int .i64 kd12) (.float .f64 nu12) (.int .i64 it12) (.string tx12)
        clear e0 e1 e2 e3 z0 z1 z2 z3 hC B14
        generalize World.setCell (World.setCell (World.setCell (World.setCell _ _ _) _ _) _ _) _ _ = w6 at S5 E5 ⊢
        refine wpAny_ready (rs := [16]) (by kernel_rfl) (by simp) ?_
        refine AllReady.cons rfl (fun K hK => ?_) AllReady.nil
        go_simp
        refine hK _ _ ?_
        clear hK K
        have SB := fun W => Lib.hid (osame_any kd nu it tx I kd12 nu12 it12 tx12 IV12 W)
        obtain ⟨rfl, _⟩ := GotA.same IV12 IV11 hx12 hx11
        have HO := Lib.hid (back_other hp hdc hx12)
        simp only [actV] at SB
        clear hx12 hx11 IV11
        refine wpAny_done (by kernel_rfl) ?_ _
        simp only [Exit.then]
        obtain ⟨a0, a1, a2, a3⟩ := act_cells S5.a
        obtain ⟨c0', c1', c2', c3'⟩ := act_cells E5
        go_wp2_with fail
        refine (oalive_any _ (hL.on S5.below)).mono ?_
        rintro e w7 ⟨rfl, g⟩
        have S7 := Lib.hid (S5.on g)
        have E7 := E5.below g E5.lt
        clear S5 E5 g a0 a1 a2 a3 c0' c1' c2' c3'
        obtain ⟨a0, a1, a2, a3⟩ := act_cells S7.out.a
        obtain ⟨c0', c1', c2', c3'⟩ := act_cells E7
        by_cases he : er12 = 0
        · have he0 : (er12 != 0) = false := by rw [bne_eq_false_iff_eq]; exact he
          have hf : (a6 kd nu it tx).same (a6 kd12 nu12 it12 tx12) = false := by
            rcases HO.out with h | h
            · exact absurd he h
            · exact h
          rw [hf] at SB
          have HE := Lib.hid he
          clear he
          go_wp2_with fail
          refine (SB _).out.mono ?_
          rintro e w8 ⟨rfl, g⟩
          have S8 := Lib.hid (S7.out.on g)
          go_wp2_with fail
          go_ret
          exact ⟨rfl, S8.out.below⟩
        · have he0 : (er12 != 0) = true := by rw [bne_iff_ne]; exact he
          have HE := Lib.hid he
          clear he
          go_wp2_with fail
          go_ret
          exact ⟨rfl, S7.out.below⟩
      · go_simp
        refine hK _ _ ?_
        clear hK K
        have S5 := One6.put4 hC (p := p14) (by omega) (.int .i64 kd12) (.float .f64 nu12) (.int .i64 it12) (.string tx12)
        have E5 := blk_set4 B14 (.int .i64 kd12) (.float .f64 nu12) (.int .i64 it12) (.string tx12)
        clear e0 e1 e2 e3 z0 z1 z2 z3 hC B14
        generalize World.setCell (World.setCell (World.setCell (World.setCell _ _ _) _ _) _ _) _ _ = w6 at S5 E5 ⊢
        refine wpAny_ready (rs := [13]) (by kernel_rfl) (by simp) ?_
        refine AllReady.cons rfl (fun K hK => ?_) AllReady.nil
        go_simp
        refine hK _ _ ?_
        clear hK K
        refine wpAny_ready (rs := [16]) (by kernel_rfl) (by simp) ?_
        refine AllReady.cons rfl (fun K hK => ?_) AllReady.nil
        go_simp
        refine hK _ _ ?_
        clear hK K
        have SB := fun W => Lib.hid (osame_any kd nu it tx I kd12 nu12 it12 tx12 IV12 W)
        obtain ⟨rfl, _⟩ := GotA.same IV12 IV11 hx12 hx11
        have HO := Lib.hid (back_other hp hdc hx12)
        simp only [actV] at SB
        clear hx12 hx11 IV11
        refine wpAny_done (by kernel_rfl) ?_ _
        simp only [Exit.then]
        obtain ⟨a0, a1, a2, a3⟩ := act_cells S5.a
        obtain ⟨c0', c1', c2', c3'⟩ := act_cells E5
        go_wp2_with fail
        refine (oalive_any _ (hL.on S5.below)).mono ?_
        rintro e w7 ⟨rfl, g⟩
        have S7 := Lib.hid (S5.on g)
        have E7 := E5.below g E5.lt
        clear S5 E5 g a0 a1 a2 a3 c0' c1' c2' c3'
        obtain ⟨a0, a1, a2, a3⟩ := act_cells S7.out.a
        obtain ⟨c0', c1', c2', c3'⟩ := act_cells E7
        by_cases he : er12 = 0
        · have he0 : (er12 != 0) = false := by rw [bne_eq_false_iff_eq]; exact he
          have hf : (a6 kd nu it tx).same (a6 kd12 nu12 it12 tx12) = false := by
            rcases HO.out with h | h
            · exact absurd he h
            · exact h
          rw [hf] at SB
          have HE := Lib.hid he
          clear he
          go_wp2_with fail
          refine (SB _).out.mono ?_
          rintro e w8 ⟨rfl, g⟩
          have S8 := Lib.hid (S7.out.on g)
          go_wp2_with fail
          go_ret
          exact ⟨rfl, S8.out.below⟩
        · have he0 : (er12 != 0) = true := by rw [bne_iff_ne]; exact he
          have HE := Lib.hid he
          clear he
          go_wp2_with fail
          go_ret
          exact ⟨rfl, S7.out.below⟩


theorem lawOpBack (kd : Int) (nu : Nat) (it : Int) (tx : ByteArray) (I : ActIn kd nu it tx) (zt : tx.size ≤ 140737488351232) (by_ : Int) (hby : (Lit.int .i64 by_).wf = true) (w : World) (hL : LaidO w) :
    Calls Tryd.prog 7 #[actV kd nu it tx, .int .i64 by_] w fun e w' => e = .returned (.bool true) ∧ Below w.heap.size w w' := by
  by_cases h1 : (3000 : Int) < (tx.size : Int)
  · exact opback_long kd nu it tx I zt by_ hby w hL h1
  · by_cases hr : rightA (a6 kd nu it tx) = true
    · cases hp : putAL (a6 kd nu it tx) with
      | nil => exact absurd hp (putAL_ne_nil _)
      | cons c0 l => exact opback_all kd nu it tx I zt by_ hby w hL h1 hr c0 l hp
    · exact opback_none kd nu it tx I zt by_ hby w hL h1 (Bool.eq_false_iff.2 hr)
end Go.Proofs.YthacdegaeokgnaaDoor
