/-
  OpTexts: values of one key that acts make have the same text just if they are the same.
-/
import Derived.Test.YthacdegaeokgnaaDoorM7
import Derived.Test.YthacdegaeokgnaaDoorM8
import Derived.Test.YthacdegaeokgnaaDoorM6
namespace Go.Proofs.YthacdegaeokgnaaDoor
open Go.RowKit

/-- Two acts that stand in blocks of their own, and all that was there. -/
structure Two6 (w : World) (kd : Int) (nu : Nat) (it : Int) (tx : ByteArray) (kd' : Int) (nu' : Nat) (it' : Int) (tx' : ByteArray) (W : World) : Prop where
  a : Blk W w.heap.size 24 (actC kd nu it tx)
  b : Blk W (w.heap.size + 1) 24 (actC kd' nu' it' tx')
  below : Below w.heap.size w W
section
variable {w W W' : World} {kd : Int} {nu : Nat} {it : Int} {tx : ByteArray} {kd' : Int} {nu' : Nat} {it' : Int} {tx' : ByteArray}
theorem Two6.on (h : Two6 w kd nu it tx kd' nu' it' tx' W) (hb : Below W.heap.size W W') : Two6 w kd nu it tx kd' nu' it' tx' W' := ⟨h.a.below hb h.a.lt, h.b.below hb h.b.lt, h.below.trans (hb.mono h.below.size)⟩
theorem Two6.alloc (h : Two6 w kd nu it tx kd' nu' it' tx' W) (o : Obj) : Two6 w kd nu it tx kd' nu' it' tx' (W.alloc o) := h.on ((Below.refl _ W).alloc (Nat.le_refl _) _)
theorem Two6.drew (h : Two6 w kd nu it tx kd' nu' it' tx' W) : Two6 w kd nu it tx kd' nu' it' tx' W.drew := ⟨h.a, h.b, h.below.drew⟩
end
theorem Two6.put4 {w W : World} {kd : Int} {nu : Nat} {it : Int} {tx : ByteArray} {kd' : Int} {nu' : Nat} {it' : Int} {tx' : ByteArray} (h : Two6 w kd nu it tx kd' nu' it' tx' W) {p : Nat} (hp : w.heap.size + 2 ≤ p) (v0 v1 v2 v3 : Value) :
    Two6 w kd nu it tx kd' nu' it' tx' ((((W.setCell ⟨p, 0, none⟩ v0).setCell ⟨p, 1, none⟩ v1).setCell ⟨p, 2, none⟩ v2).setCell ⟨p, 3, none⟩ v3) :=
  ⟨blk_far4 h.a (by omega) _ _ _ _, blk_far4 h.b (by omega) _ _ _ _, below_set4 h.below (by omega) _ _ _ _⟩
theorem done_there {key : List UInt8} {kd : Int} {nu : Nat} {it : Int} {tx : ByteArray} (h : fitsA key (a6 kd nu it tx) = true) {th : Bool} {vn : Nat} {vi : Int} {vt : ByteArray} (hx : v6 th vn vi vt = doneA V6.zero (a6 kd nu it tx)) : th = !decide (kd = 4) := by
  have h1 : th = (doneA V6.zero (a6 kd nu it tx)).th := congrArg V6.th hx
  rw [h1]
  unfold doneA V6.zero a6
  rcases fits_kind h with h0 | h0 | h0 | h0 | h0 <;> (unfold a6 at h0; simp only at h0; simp [h0])
theorem done_size {key : List UInt8} {kd : Int} {nu : Nat} {it : Int} {tx : ByteArray} (h : fitsA key (a6 kd nu it tx) = true) {th : Bool} {vn : Nat} {vi : Int} {vt : ByteArray} (hx : v6 th vn vi vt = doneA V6.zero (a6 kd nu it tx)) : vt.size ≤ 1024 := by
  have h1 : vt.data.toList = (doneA V6.zero (a6 kd nu it tx)).tx := congrArg V6.tx hx
  rw [str_size, h1]
  have hr := (fitsA_key h).2.1
  unfold rightA at hr
  unfold doneA V6.zero
  rcases fits_kind h with h0 | h0 | h0 | h0 | h0
  · simp [h0]
  · simp only [h0, if_pos] at hr
    have := (of_decide_eq_true hr).2.1
    simpa [h0] using this
  · simp [h0]
  · simp [h0]
  · simp [h0]
/-- A value known by its place alone. -/
def SlotV {T : World → World → Prop} (x : V6) : Slot T := Slot.sort fun v => ∃ th nu it tx, v = valV th nu it tx ∧ ValIn nu it tx ∧ v6 th nu it tx = x
/-- A new value's block. -/
def SlotN (B : Nat) : Slot (fun w w' => Below w.heap.size w w') := ⟨fun v w => ∃ p, v = .pointer (some ⟨p, 0, none⟩) ∧ B ≤ p ∧ Blk w p 26 (valC false 0 0 ⟨#[]⟩), fun _ _ _ h hT => by
  obtain ⟨p, h1, h2, h3⟩ := h
  exact ⟨p, h1, h2, h3.below hT h3.lt⟩, true⟩

set_option maxRecDepth 100000 in
set_option maxHeartbeats 4000000 in
theorem optexts_1 (q2 : Bool) (key : ByteArray) (hk : key.size ≤ 9223372036854775807) (kd : Int) (nu : Nat) (it : Int) (tx : ByteArray) (I : ActIn kd nu it tx) (kd' : Int) (nu' : Nat) (it' : Int) (tx' : ByteArray) (I' : ActIn kd' nu' it' tx') (w : World) (hL : LaidO w) (h1 : fitsA key.data.toList (a6 kd nu it tx) = false) (_h2 : fitsA key.data.toList (a6 kd' nu' it' tx') = q2) :
    Calls Tryd.prog 6 #[.string key, actV kd nu it tx, actV kd' nu' it' tx'] w fun e w' => e = .returned (.bool true) ∧ Below w.heap.size w w' := by
  have F1 := fun W => Lib.hid (ofits_any key hk kd nu it tx I W)
  have F2 := fun W => Lib.hid (ofits_any key hk kd' nu' it' tx' I' W)
  rw [h1] at F1
  rw [_h2] at F2
  simp only [actV] at F1 F2
  unfold actV
  have S0 : Two6 w kd nu it tx kd' nu' it' tx' ((w.alloc (.cells #[.int .i64 kd, .float .f64 nu, .int .i64 it, .string tx] 24)).alloc (.cells #[.int .i64 kd', .float .f64 nu', .int .i64 it', .string tx'] 24)) := ⟨(Blk.new w _ _).alloc _, Blk.new' (by simp) _ _, ((Below.refl _ w).alloc (Nat.le_refl _) _).alloc (by simp) _⟩
  have hst := run_sto_f64
  go_enter Tryd.func6, Tryd.ntmps6
  go_wp2_with fail
  generalize (w.alloc (.cells #[.int .i64 kd, .float .f64 nu, .int .i64 it, .string tx] 24)).alloc (.cells #[.int .i64 kd', .float .f64 nu', .int .i64 it', .string tx'] 24) = w0 at S0 ⊢
  refine (F1 _).out.mono ?_
  rintro e w1 ⟨rfl, g1⟩
  have S1 := S0.on g1
  clear S0 g1
  obtain ⟨a0, a1, a2, a3⟩ := act_cells S1.a
  obtain ⟨b0, b1, b2, b3⟩ := act_cells S1.b
  have AF := fun W => Lib.hid (oafter_any key hk false 0 0 ⟨#[]⟩ ValIn.zero kd nu it tx I W)
  have hz : v6 false 0 0 ⟨#[]⟩ = V6.zero := by unfold v6 V6.zero; simp [rank_zero]
  have ha : afterA key.data.toList V6.zero (a6 kd nu it tx) = V6.zero := by unfold afterA; rw [h1]; rfl
  rw [hz, ha] at AF
  simp only [actV, valV] at AF
  have SV := fun th nu it tx IV W => Lib.hid (osameval_any th nu it tx IV false 0 0 ⟨#[]⟩ ValIn.zero W)
  rw [hz] at SV
  simp only [valV] at SV
  clear h1 _h2 ha F2
  have S1 := Lib.hid S1
  go_wp2_with fail
  refine (oalive_any _ (hL.on S1.out.below)).mono ?_
  rintro e w2 ⟨rfl, g2⟩
  have S2 := S1.out.on g2
  clear S1 g2 a0 a1 a2 a3 b0 b1 b2 b3
  obtain ⟨a0, a1, a2, a3⟩ := act_cells S2.a
  have S2 := Lib.hid S2
  go_wp2_with fail
  refine (F1 _).out.mono ?_
  rintro e w3 ⟨rfl, g3⟩
  have S3 := S2.out.on g3
  clear S2 g3 a0 a1 a2 a3
  obtain ⟨a0, a1, a2, a3⟩ := act_cells S3.a
  have S3 := Lib.hid S3
  go_wp2_with fail
  refine (AF _).out.mono ?_
  rintro e w4 ⟨⟨th4, nu4, it4, tx4, rfl, hv4, hx4⟩, g4⟩
  have S4 := Lib.hid (S3.out.on g4)
  clear S3 g4 a0 a1 a2 a3
  have SV := SV th4 nu4 it4 tx4 hv4
  rw [hx4, (V6.same_iff _ _).2 rfl] at SV
  simp only [valV]
  go_wp2_with fail
  refine (SV _).out.mono ?_
  rintro e w5 ⟨rfl, g5⟩
  have S5 := Lib.hid (S4.out.on g5)
  go_wp2_with fail
  go_ret
  exact ⟨rfl, S5.out.below⟩

set_option maxRecDepth 100000 in
set_option maxHeartbeats 4000000 in
theorem optexts_2 (key : ByteArray) (hk : key.size ≤ 9223372036854775807) (kd : Int) (nu : Nat) (it : Int) (tx : ByteArray) (I : ActIn kd nu it tx) (kd' : Int) (nu' : Nat) (it' : Int) (tx' : ByteArray) (I' : ActIn kd' nu' it' tx') (w : World) (hL : LaidO w) (h1 : fitsA key.data.toList (a6 kd nu it tx) = true) (h2 : fitsA key.data.toList (a6 kd' nu' it' tx') = false) :
    Calls Tryd.prog 6 #[.string key, actV kd nu it tx, actV kd' nu' it' tx'] w fun e w' => e = .returned (.bool true) ∧ Below w.heap.size w w' := by
  have F1 := fun W => Lib.hid (ofits_any key hk kd nu it tx I W)
  have F2 := fun W => Lib.hid (ofits_any key hk kd' nu' it' tx' I' W)
  rw [h1] at F1
  rw [h2] at F2
  simp only [actV] at F1 F2
  unfold actV
  have S0 : Two6 w kd nu it tx kd' nu' it' tx' ((w.alloc (.cells #[.int .i64 kd, .float .f64 nu, .int .i64 it, .string tx] 24)).alloc (.cells #[.int .i64 kd', .float .f64 nu', .int .i64 it', .string tx'] 24)) := ⟨(Blk.new w _ _).alloc _, Blk.new' (by simp) _ _, ((Below.refl _ w).alloc (Nat.le_refl _) _).alloc (by simp) _⟩
  have hst := run_sto_f64
  go_enter Tryd.func6, Tryd.ntmps6
  go_wp2_with fail
  generalize (w.alloc (.cells #[.int .i64 kd, .float .f64 nu, .int .i64 it, .string tx] 24)).alloc (.cells #[.int .i64 kd', .float .f64 nu', .int .i64 it', .string tx'] 24) = w0 at S0 ⊢
  refine (F1 _).out.mono ?_
  rintro e w1 ⟨rfl, g1⟩
  have S1 := S0.on g1
  clear S0 g1
  obtain ⟨a0, a1, a2, a3⟩ := act_cells S1.a
  obtain ⟨b0, b1, b2, b3⟩ := act_cells S1.b
  clear h1 h2
  have S1 := Lib.hid S1
  go_wp2_with fail
  refine (F2 _).out.mono ?_
  rintro e w2 ⟨rfl, g2⟩
  have S2 := S1.out.on g2
  clear S1 g2 a0 a1 a2 a3 b0 b1 b2 b3
  obtain ⟨a0, a1, a2, a3⟩ := act_cells S2.a
  have S2 := Lib.hid S2
  go_wp2_with fail
  refine (oalive_any _ (hL.on S2.out.below)).mono ?_
  rintro e w3 ⟨rfl, g3⟩
  have S3 := S2.out.on g3
  clear S2 g3 a0 a1 a2 a3
  obtain ⟨a0, a1, a2, a3⟩ := act_cells S3.a
  have S3 := Lib.hid S3
  go_wp2_with fail
  refine (F1 _).out.mono ?_
  rintro e w4 ⟨rfl, g4⟩
  have S4 := Lib.hid (S3.out.on g4)
  go_wp2_with fail
  go_ret
  exact ⟨rfl, S4.out.below⟩

set_option maxRecDepth 100000 in
set_option maxHeartbeats 4000000 in
theorem optexts_3 (key : ByteArray) (hk : key.size ≤ 9223372036854775807) (kd : Int) (nu : Nat) (it : Int) (tx : ByteArray) (I : ActIn kd nu it tx) (kd' : Int) (nu' : Nat) (it' : Int) (tx' : ByteArray) (I' : ActIn kd' nu' it' tx') (w : World) (hL : LaidO w) (h1 : fitsA key.data.toList (a6 kd nu it tx) = true) (h2 : fitsA key.data.toList (a6 kd' nu' it' tx') = true) :
    Calls Tryd.prog 6 #[.string key, actV kd nu it tx, actV kd' nu' it' tx'] w fun e w' => e = .returned (.bool true) ∧ Below w.heap.size w w' := by
  have F1 := fun W => Lib.hid (ofits_any key hk kd nu it tx I W)
  have F2 := fun W => Lib.hid (ofits_any key hk kd' nu' it' tx' I' W)
  rw [h1] at F1
  rw [h2] at F2
  simp only [actV] at F1 F2
  unfold actV
  have S0 : Two6 w kd nu it tx kd' nu' it' tx' ((w.alloc (.cells #[.int .i64 kd, .float .f64 nu, .int .i64 it, .string tx] 24)).alloc (.cells #[.int .i64 kd', .float .f64 nu', .int .i64 it', .string tx'] 24)) := ⟨(Blk.new w _ _).alloc _, Blk.new' (by simp) _ _, ((Below.refl _ w).alloc (Nat.le_refl _) _).alloc (by simp) _⟩
  have hst := run_sto_f64
  go_enter Tryd.func6, Tryd.ntmps6
  go_wp2_with fail
  generalize (w.alloc (.cells #[.int .i64 kd, .float .f64 nu, .int .i64 it, .string tx] 24)).alloc (.cells #[.int .i64 kd', .float .f64 nu', .int .i64 it', .string tx'] 24) = w0 at S0 ⊢
  refine (F1 _).out.mono ?_
  rintro e w1 ⟨rfl, g1⟩
  have S1 := S0.on g1
  clear S0 g1
  obtain ⟨a0, a1, a2, a3⟩ := act_cells S1.a
  obtain ⟨b0, b1, b2, b3⟩ := act_cells S1.b
  have A1 := fun W => Lib.hid (oafter_any key hk false 0 0 ⟨#[]⟩ ValIn.zero kd nu it tx I W)
  have A2 := fun W => Lib.hid (oafter_any key hk false 0 0 ⟨#[]⟩ ValIn.zero kd' nu' it' tx' I' W)
  have hz : v6 false 0 0 ⟨#[]⟩ = V6.zero := by unfold v6 V6.zero; simp [rank_zero]
  have ha : afterA key.data.toList V6.zero (a6 kd nu it tx) = doneA V6.zero (a6 kd nu it tx) := by unfold afterA; rw [h1]; rfl
  have hb : afterA key.data.toList V6.zero (a6 kd' nu' it' tx') = doneA V6.zero (a6 kd' nu' it' tx') := by unfold afterA; rw [h2]; rfl
  rw [hz, ha] at A1
  rw [hz, hb] at A2
  simp only [actV, valV] at A1 A2
  have H1 := Lib.hid h1
  have H2 := Lib.hid h2
  clear h1 h2 ha hb
  have S1 := Lib.hid S1
  go_wp2_with fail
  refine (F2 _).out.mono ?_
  rintro e w2 ⟨rfl, g2⟩
  have S2 := S1.out.on g2
  clear S1 g2 a0 a1 a2 a3 b0 b1 b2 b3 F1 F2
  go_wp2_with fail
  refine wp_region_ord (fun W => Two6 w kd nu it tx kd' nu' it' tx' W) (fun w w' => Below w.heap.size w w') [Slot.is (.string key), Slot.is (.agg #[.bool false, .float .f64 0, .int .i64 0, .string ⟨#[]⟩]), Slot.is (.agg #[.int .i64 kd, .float .f64 nu, .int .i64 it, .string tx]), SlotV (doneA V6.zero (a6 kd nu it tx)), Slot.is (.string key), Slot.is (.agg #[.bool false, .float .f64 0, .int .i64 0, .string ⟨#[]⟩]), Slot.is (.agg #[.int .i64 kd', .float .f64 nu', .int .i64 it', .string tx']), SlotV (doneA V6.zero (a6 kd' nu' it' tx')), SlotN (w.heap.size + 2), SlotN (w.heap.size + 2)] 10 2 (by kernel_rfl) (fun _ _ h => Below.size h) (by kernel_rfl) (by kernel_rfl) (by kernel_rfl) rfl (by decide) S2.drew (fun i hi => ?_) (fun a w3 J => ?_)
  · rcases i with _ | _ | _ | _ | _ | _ | _ | _ | _ | _ | i
    · refine ordOb_at (o := _) rfl rfl (fun a W hC hF hD => ?_)
      have g0 : a.tmps[0]? = some (.string key) := hF 0 _ (by kernel_rfl) rfl
      unfold frees
      go_simp
      exact ⟨hC, Below.refl _ _, rfl, fun h => by cases h⟩
    · refine ordOb_at (o := _) rfl rfl (fun a W hC hF hD => ?_)
      unfold frees
      go_simp
      exact ⟨hC, Below.refl _ _, rfl, fun h => by cases h⟩
    · refine ordOb_at (o := _) rfl rfl (fun a W hC hF hD => ?_)
      have g4 : a.tmps[4]? = some (.pointer (some ⟨w.heap.size, 0, none⟩)) := hF 4 _ (by kernel_rfl) rfl
      obtain ⟨c0, c1, c2, c3⟩ := act_cells (Two6.a hC)
      unfold frees
      go_simp
      exact ⟨hC, Below.refl _ _, rfl, fun h => by cases h⟩
    · refine ordOb_at (o := _) rfl rfl (fun a W hC hF hD => ?_)
      have g33 : a.tmps[33]? = some (.string key) := by
        obtain ⟨v, h1, h2⟩ := hD 0 33 (by kernel_rfl) (by kernel_rfl)
        rw [h1]
        exact congrArg some h2
      have g34 : a.tmps[34]? = some (.agg #[.bool false, .float .f64 0, .int .i64 0, .string ⟨#[]⟩]) := by
        obtain ⟨v, h1, h2⟩ := hD 1 34 (by kernel_rfl) (by kernel_rfl)
        rw [h1]
        exact congrArg some h2
      have g35 : a.tmps[35]? = some (.agg #[.int .i64 kd, .float .f64 nu, .int .i64 it, .string tx]) := by
        obtain ⟨v, h1, h2⟩ := hD 2 35 (by kernel_rfl) (by kernel_rfl)
        rw [h1]
        exact congrArg some h2
      unfold frees
      go_simp
      refine ⟨rfl, (A1 _).out.mono ?_⟩
      rintro e W2 ⟨⟨th, vn, vi, vt, rfl, hv, hx⟩, g⟩
      exact ⟨_, rfl, Two6.on hC g, g, th, vn, vi, vt, rfl, hv, hx⟩
    · refine ordOb_at (o := _) rfl rfl (fun a W hC hF hD => ?_)
      have g0 : a.tmps[0]? = some (.string key) := hF 0 _ (by kernel_rfl) rfl
      unfold frees
      go_simp
      exact ⟨hC, Below.refl _ _, rfl, fun h => by cases h⟩
    · refine ordOb_at (o := _) rfl rfl (fun a W hC hF hD => ?_)
      unfold frees
      go_simp
      exact ⟨hC, Below.refl _ _, rfl, fun h => by cases h⟩
    · refine ordOb_at (o := _) rfl rfl (fun a W hC hF hD => ?_)
      have g5 : a.tmps[5]? = some (.pointer (some ⟨w.heap.size + 1, 0, none⟩)) := hF 5 _ (by kernel_rfl) rfl
      obtain ⟨c0, c1, c2, c3⟩ := act_cells (Two6.b hC)
      unfold frees
      go_simp
      exact ⟨hC, Below.refl _ _, rfl, fun h => by cases h⟩
    · refine ordOb_at (o := _) rfl rfl (fun a W hC hF hD => ?_)
      have g37 : a.tmps[37]? = some (.string key) := by
        obtain ⟨v, h1, h2⟩ := hD 4 37 (by kernel_rfl) (by kernel_rfl)
        rw [h1]
        exact congrArg some h2
      have g38 : a.tmps[38]? = some (.agg #[.bool false, .float .f64 0, .int .i64 0, .string ⟨#[]⟩]) := by
        obtain ⟨v, h1, h2⟩ := hD 5 38 (by kernel_rfl) (by kernel_rfl)
        rw [h1]
        exact congrArg some h2
      have g39 : a.tmps[39]? = some (.agg #[.int .i64 kd', .float .f64 nu', .int .i64 it', .string tx']) := by
        obtain ⟨v, h1, h2⟩ := hD 6 39 (by kernel_rfl) (by kernel_rfl)
        rw [h1]
        exact congrArg some h2
      unfold frees
      go_simp
      refine ⟨rfl, (A2 _).out.mono ?_⟩
      rintro e W2 ⟨⟨th, vn, vi, vt, rfl, hv, hx⟩, g⟩
      exact ⟨_, rfl, Two6.on hC g, g, th, vn, vi, vt, rfl, hv, hx⟩
    · refine ordOb_at (o := _) rfl rfl (fun a W hC hF hD => ?_)
      unfold frees
      go_simp
      exact ⟨Two6.alloc hC _, (Below.refl _ _).alloc (Nat.le_refl _) _, ⟨_, rfl, Two6.b hC |>.lt, Blk.new W _ _⟩, fun _ => ⟨_, rfl, Nat.le_refl _, by simp⟩⟩
    · refine ordOb_at (o := _) rfl rfl (fun a W hC hF hD => ?_)
      unfold frees
      go_simp
      exact ⟨Two6.alloc hC _, (Below.refl _ _).alloc (Nat.le_refl _) _, ⟨_, rfl, Two6.b hC |>.lt, Blk.new W _ _⟩, fun _ => ⟨_, rfl, Nat.le_refl _, by simp⟩⟩
    · exact absurd hi (by omega)
  · obtain ⟨vs, hln, rfl, hC, hS, hap⟩ := J.all_ (by kernel_rfl) (ds := [some 33, some 34, some 35, some 36, some 37, some 38, some 39, some 40, some 7, some 8]) (by kernel_rfl)
    clear J
    obtain ⟨v0, vs, rfl⟩ := List.exists_cons_of_length_eq_add_one hln
    replace hln := Nat.succ.inj hln
    obtain ⟨v1, vs, rfl⟩ := List.exists_cons_of_length_eq_add_one hln
    replace hln := Nat.succ.inj hln
    obtain ⟨v2, vs, rfl⟩ := List.exists_cons_of_length_eq_add_one hln
    replace hln := Nat.succ.inj hln
    obtain ⟨v3, vs, rfl⟩ := List.exists_cons_of_length_eq_add_one hln
    replace hln := Nat.succ.inj hln
    obtain ⟨v4, vs, rfl⟩ := List.exists_cons_of_length_eq_add_one hln
    replace hln := Nat.succ.inj hln
    obtain ⟨v5, vs, rfl⟩ := List.exists_cons_of_length_eq_add_one hln
    replace hln := Nat.succ.inj hln
    obtain ⟨v6', vs, rfl⟩ := List.exists_cons_of_length_eq_add_one hln
    replace hln := Nat.succ.inj hln
    obtain ⟨v7, vs, rfl⟩ := List.exists_cons_of_length_eq_add_one hln
    replace hln := Nat.succ.inj hln
    obtain ⟨v8, vs, rfl⟩ := List.exists_cons_of_length_eq_add_one hln
    replace hln := Nat.succ.inj hln
    obtain ⟨v9, vs, rfl⟩ := List.exists_cons_of_length_eq_add_one hln
    replace hln := Nat.succ.inj hln
    obtain rfl := List.eq_nil_of_length_eq_zero hln
    have q0 : v0 = .string key := hS 0 (by decide)
    have q1 : v1 = .agg #[.bool false, .float .f64 0, .int .i64 0, .string ⟨#[]⟩] := hS 1 (by decide)
    have q2 : v2 = .agg #[.int .i64 kd, .float .f64 nu, .int .i64 it, .string tx] := hS 2 (by decide)
    obtain ⟨th3, nu3, it3, tx3, q3, hv3, hx3⟩ := hS 3 (by decide)
    have q3 : v3 = valV th3 nu3 it3 tx3 := q3
    have q4 : v4 = .string key := hS 4 (by decide)
    have q5 : v5 = .agg #[.bool false, .float .f64 0, .int .i64 0, .string ⟨#[]⟩] := hS 5 (by decide)
    have q6 : v6' = .agg #[.int .i64 kd', .float .f64 nu', .int .i64 it', .string tx'] := hS 6 (by decide)
    obtain ⟨th7, nu7, it7, tx7, q7, hv7, hx7⟩ := hS 7 (by decide)
    have q7 : v7 = valV th7 nu7 it7 tx7 := q7
    obtain ⟨p8, q8, hp8, B8⟩ := hS 8 (by decide)
    have q8 : v8 = .pointer (some ⟨p8, 0, none⟩) := q8
    obtain ⟨p9, q9, hp9, B9⟩ := hS 9 (by decide)
    have q9 : v9 = .pointer (some ⟨p9, 0, none⟩) := q9
    have hne : p8 ≠ p9 := hap 8 9 (by decide) (by decide) (by decide) rfl rfl p8 p9 q8 q9
    subst q0 q1 q2 q3 q4 q5 q6 q7 q8 q9
    clear hS hap
    simp only [fillT, List.setIfInBounds_toArray, List.set_cons_zero, List.set_cons_succ]
    simp only [valV]
    obtain ⟨d0, d1, d2, d3⟩ := val_cells B8
    have z0 := B8.frozen 0
    have z1 := B8.frozen 1
    have z2 := B8.frozen 2
    have z3 := B8.frozen 3
    refine wpAny_ready (rs := [10]) (by kernel_rfl) (by simp) ?_
    refine AllReady.cons rfl (fun K hK => ?_) AllReady.nil
    go_simp
    refine hK _ _ ?_
    clear hK K
    have S4 := Two6.put4 hC (p := p8) (by omega) (.bool th3) (.float .f64 nu3) (.int .i64 it3) (.string tx3)
    have D8 := blk_set4 B8 (.bool th3) (.float .f64 nu3) (.int .i64 it3) (.string tx3)
    have D9 := blk_far4 B9 (Ne.symm hne) (.bool th3) (.float .f64 nu3) (.int .i64 it3) (.string tx3)
    clear d0 d1 d2 d3 z0 z1 z2 z3 hC B8 B9
    generalize World.setCell (World.setCell (World.setCell (World.setCell _ _ _) _ _) _ _) _ _ = w4 at S4 D8 D9 ⊢
    obtain ⟨d0, d1, d2, d3⟩ := val_cells D9
    have z0 := D9.frozen 0
    have z1 := D9.frozen 1
    have z2 := D9.frozen 2
    have z3 := D9.frozen 3
    refine wpAny_ready (rs := [11]) (by kernel_rfl) (by simp) ?_
    refine AllReady.cons rfl (fun K hK => ?_) AllReady.nil
    go_simp
    refine hK _ _ ?_
    clear hK K
    have S5 := Two6.put4 S4 (p := p9) (by omega) (.bool th7) (.float .f64 nu7) (.int .i64 it7) (.string tx7)
    have E9 := blk_set4 D9 (.bool th7) (.float .f64 nu7) (.int .i64 it7) (.string tx7)
    have E8 := blk_far4 D8 hne (.bool th7) (.float .f64 nu7) (.int .i64 it7) (.string tx7)
    clear d0 d1 d2 d3 z0 z1 z2 z3 S4 D8 D9
    generalize World.setCell (World.setCell (World.setCell (World.setCell _ _ _) _ _) _ _) _ _ = w5 at S5 E8 E9 ⊢
    refine wpAny_done (by kernel_rfl) ?_ _
    simp only [Exit.then]
    obtain ⟨a0, a1, a2, a3⟩ := act_cells S5.a
    obtain ⟨c0, c1, c2, c3⟩ := val_cells E8
    obtain ⟨d0, d1, d2, d3⟩ := val_cells E9
    have hkey := (fitsA_key H1.out).1
    have SH1 := shape_of (th := th3) (r := rankN nu3) (vi := it3) (vt := tx3.data.toList) H1.out hx3
    have SH2 := shape_of (th := th7) (r := rankN nu7) (vi := it7) (vt := tx7.data.toList) H2.out hx7
    have hth : th3 = !decide (kd = 4) := done_there H1.out hx3
    have hl3 : tx3.size ≤ 1024 := done_size H1.out hx3
    have hl7 : tx7.size ≤ 1024 := done_size H2.out hx7
    have TS := texts_same hkey hv3.nu hv7.nu SH1 SH2
    clear A1 A2 H1 H2 hx3 hx7 SH1 SH2 hkey
    have e4 : (kd != 4) = th3 := by
      rw [hth, Bool.eq_iff_iff]
      simp
    obtain ⟨X, hX⟩ : ∃ X, textV key.data.toList th3 nu3 it3 tx3.data.toList = X := ⟨_, rfl⟩
    obtain ⟨Y, hY⟩ : ∃ Y, textV key.data.toList th7 nu7 it7 tx7.data.toList = Y := ⟨_, rfl⟩
    obtain ⟨b, hb⟩ : ∃ b, (v6 th3 nu3 it3 tx3).same (v6 th7 nu7 it7 tx7) = b := ⟨_, rfl⟩
    rw [hX, hY, hb] at TS
    have AL : ∀ W, (Two6 w kd nu it tx kd' nu' it' tx' W ∧ Below w5.heap.size w5 W) → Hid (Calls Tryd.prog 11 #[] W fun e w' => e = .returned (.bool true) ∧ (Two6 w kd nu it tx kd' nu' it' tx' w' ∧ Below w5.heap.size w5 w')) := fun W hW => (oalive_any W (hL.on hW.1.below)).mono fun e w' ⟨he, g⟩ => ⟨he, hW.1.on g, hW.2.trans (g.mono hW.2.size)⟩
    have T1 : ∀ W, (Two6 w kd nu it tx kd' nu' it' tx' W ∧ Below w5.heap.size w5 W) → Hid (Calls Tryd.prog 26 #[.string key, valV th3 nu3 it3 tx3] W fun e w' => e = .returned (.string ⟨X.toArray⟩) ∧ (Two6 w kd nu it tx kd' nu' it' tx' w' ∧ Below w5.heap.size w5 w')) := fun W hW => (otext_any key hk th3 nu3 it3 tx3 hv3 (by omega) W (hL.on hW.1.below)).mono fun e w' ⟨he, g⟩ => ⟨by rw [he, hX], hW.1.on g, hW.2.trans (g.mono hW.2.size)⟩
    have T2 : ∀ W, (Two6 w kd nu it tx kd' nu' it' tx' W ∧ Below w5.heap.size w5 W) → Hid (Calls Tryd.prog 26 #[.string key, valV th7 nu7 it7 tx7] W fun e w' => e = .returned (.string ⟨Y.toArray⟩) ∧ (Two6 w kd nu it tx kd' nu' it' tx' w' ∧ Below w5.heap.size w5 w')) := fun W hW => (otext_any key hk th7 nu7 it7 tx7 hv7 (by omega) W (hL.on hW.1.below)).mono fun e w' ⟨he, g⟩ => ⟨by rw [he, hY], hW.1.on g, hW.2.trans (g.mono hW.2.size)⟩
    have SV : ∀ W, (Two6 w kd nu it tx kd' nu' it' tx' W ∧ Below w5.heap.size w5 W) → Hid (Calls Tryd.prog 20 #[valV th3 nu3 it3 tx3, valV th7 nu7 it7 tx7] W fun e w' => e = .returned (.bool b) ∧ (Two6 w kd nu it tx kd' nu' it' tx' w' ∧ Below w5.heap.size w5 w')) := fun W hW => (osameval_any th3 nu3 it3 tx3 hv3 th7 nu7 it7 tx7 hv7 W).mono fun e w' ⟨he, g⟩ => ⟨by rw [he, hb], hW.1.on g, hW.2.trans (g.mono hW.2.size)⟩
    simp only [valV] at T1 T2 SV
    have C5 : Two6 w kd nu it tx kd' nu' it' tx' w5 ∧ Below w5.heap.size w5 w5 := ⟨S5, Below.refl _ _⟩
    clear hX hY hb hth hl3 hl7 hL hst hz S5 a0 a1 a2 a3 c0 c1 c2 c3 d0 d1 d2 d3
    go_wp2_with fail
    refine wp_region_class (fun W => Two6 w kd nu it tx kd' nu' it' tx' W ∧ Below w5.heap.size w5 W) (by kernel_rfl) (by kernel_rfl) ⟨C5.1.drew, C5.2.drew⟩ ?_
    repeat' (first
      | (refine wpQuiet_skip (by rfl) ?_; try simp only [Act.put, List.setIfInBounds_toArray, List.set_cons_zero, List.set_cons_succ])
      | (refine wpQuiet_take (by rfl) ?_ (fun W hW => ?_) ?_
         rotate_left
         focus
           obtain ⟨a0, a1, a2, a3⟩ := act_cells (Two6.a hW.1)
           obtain ⟨c0, c1, c2, c3⟩ := val_cells (E8.below hW.2 E8.lt)
           obtain ⟨d0, d1, d2, d3⟩ := val_cells (E9.below hW.2 E9.lt)
           go_simp
           first
             | done
             | with_reducible rfl
             | exact (AL W hW).out
             | (go_at_call_of 26 (Value.string tx3); exact (T1 W hW).out)
             | (go_at_call_of 26 (Value.string tx7); exact (T2 W hW).out)
             | exact (SV W hW).out
         try simp only [Act.put, List.setIfInBounds_toArray, List.set_cons_zero, List.set_cons_succ]))
    refine wpQuiet_nil (fun w6 hW => ?_)
    have hbw := hW.1.below
    clear hW AL T1 T2 SV C5 E8 E9
    simp only [Exit.then]
    go_wp2_with fail
    go_ret
    exact ⟨by simp, hbw⟩


theorem lawOpTexts (key : ByteArray) (hk : key.size ≤ 140737488351232) (kd : Int) (nu : Nat) (it : Int) (tx : ByteArray) (I : ActIn kd nu it tx) (_z : tx.size ≤ 140737488351232) (kd' : Int) (nu' : Nat) (it' : Int) (tx' : ByteArray) (I' : ActIn kd' nu' it' tx') (_z' : tx'.size ≤ 140737488351232) (w : World) (hL : LaidO w) :
    Calls Tryd.prog 6 #[.string key, actV kd nu it tx, actV kd' nu' it' tx'] w fun e w' => e = .returned (.bool true) ∧ Below w.heap.size w w' := by
  replace hk : key.size ≤ 9223372036854775807 := Nat.le_trans hk (by decide)
  by_cases h1 : fitsA key.data.toList (a6 kd nu it tx) = true
  · by_cases h2 : fitsA key.data.toList (a6 kd' nu' it' tx') = true
    · exact optexts_3 key hk kd nu it tx I kd' nu' it' tx' I' w hL h1 h2
    · exact optexts_2 key hk kd nu it tx I kd' nu' it' tx' I' w hL h1 (Bool.eq_false_iff.2 h2)
  · exact optexts_1 _ key hk kd nu it tx I kd' nu' it' tx' I' w hL (Bool.eq_false_iff.2 h1) rfl
end Go.Proofs.YthacdegaeokgnaaDoor
