/-
  The book of lists: versions the same one by one; are lent versions as they were?
-/
import Derived.Test.YthacdegaeokgnaaDoorMXBookV
import Derived.Test.YthacdegaeokgnaaDoorM8
import Derived.Test.YthacdegaeokgnaaDoorM2
namespace Go.Proofs.YthacdegaeokgnaaDoor
open Go.RowKit

/-- What is the same of two versions, as the book asks it. -/
def sameR (u r : VerR) : Bool := sameVerN u.key u.xs u.o u.x u.kd u.nu u.it u.tx r.key r.xs r.o r.x r.kd r.nu r.it r.tx
theorem sameR_refl (r : VerR) : sameR r r = true := by
  unfold sameR sameVerN sameActN
  rw [cmpN_self]
  simp
theorem sameR_at (r : VerR) (A : Option Addr) (n c : Nat) : sameR (r.at_ A n c) r = sameR r r := rfl

set_option maxRecDepth 100000 in
set_option maxHeartbeats 4000000 in
theorem samevers_any (A1 : Option Addr) (n c1 : Nat) (us : List VerR) (A2 : Option Addr) (c2 : Nat) (vs : List VerR) (w : World) (I1 : VersIn w A1 n us) (I2 : VersIn w A2 n vs) (hn : n ≤ 1000)
    (hs : ∀ j, j < n → sameR (us.getD j VerR.zero) (vs.getD j VerR.zero) = true) :
    Calls Tryd.prog 62 #[.slice A1 n c1, .slice A2 n c2] w fun e w' => e = .returned (.bool true) ∧ Below w.heap.size w w' := by
  have I1 := Lib.hid I1
  have I2 := Lib.hid I2
  have HS := Lib.hid hs
  have hn' : (n : Int) ≤ 1000 := by omega
  have hnn : ((n : Int) == (n : Int)) = true := by simp
  clear hs
  go_enter Tryd.func62, Tryd.ntmps62
  go_wp2_with fail
  go_loopw [5] (fun i wr => ∃ k : Nat, k ≤ n ∧ i = .int .i64 (k : Int) ∧ Below w.heap.size w wr) (fun i _ => n - (intOf i).toNat)
  case atStart => exact ⟨0, by omega, rfl, Below.refl _ _⟩
  case round =>
    obtain ⟨k, hk, rfl, hbq⟩ := hrel
    by_cases hkn : k < n
    · obtain ⟨u, hu⟩ : ∃ u, us.getD k VerR.zero = u := ⟨_, rfl⟩
      obtain ⟨r, hr⟩ : ∃ r, vs.getD k VerR.zero = r := ⟨_, rfl⟩
      have hsk : sameR u r = true := by rw [← hu, ← hr]; exact HS.out k hkn
      obtain ⟨b1, o1, rfl, _, _⟩ := I1.out.some (by omega)
      obtain ⟨b2, o2, rfl, _, _⟩ := I2.out.some (by omega)
      have CA : ∀ W, Below w.heap.size w W → _ := fun W hW => VersIn.at_ ((I1.out.below hW).some (by omega) |> fun ⟨b', off', hA, _, hc⟩ => by cases hA; exact hc) hkn hu
      have CB : ∀ W, Below w.heap.size w W → _ := fun W hW => VersIn.at_ ((I2.out.below hW).some (by omega) |> fun ⟨b', off', hA, _, hc⟩ => by cases hA; exact hc) hkn hr
      have RU : Hid (u.in_ w) := by rw [← hu]; exact I1.out.each k hkn
      have RR : Hid (r.in_ w) := by rw [← hr]; exact I2.out.each k hkn
      have TA : ∀ W, Below w.heap.size w W → Hid (Calls Tryd.prog 90 #[verV u.key u.A u.n u.c u.o u.x u.kd u.nu u.it u.tx, verV r.key r.A r.n r.c r.o r.x r.kd r.nu r.it r.tx] W fun e w' => e = .returned (.bool true) ∧ Below w.heap.size w w') := fun W hW => ((rsamever_any u.key u.A u.n u.c u.o u.x u.kd u.nu u.it u.tx u.xs r.key r.A r.n r.c r.o r.x r.kd r.nu r.it r.tx r.xs W (RU.out.below hW).ints (RR.out.below hW).ints (wf_f64 RU.out.nw) (wf_f64 RR.out.nw)).mono fun e w' ⟨he, hb⟩ => (⟨by rw [he]; exact congrArg (fun b => Ending.returned (Value.bool b)) hsk, hW.trans (hb.mono hW.size)⟩ : _ ∧ Below w.heap.size w w'))
      simp only [verV] at TA
      have hkn' : (k : Int) < (n : Int) := by omega
      clear hu hr hsk RU RR
      go_wp2_with fail
      refine wp_region_wq (fun W => Below w.heap.size w W) (by kernel_rfl) (by kernel_rfl) hbq.drew ?_
      repeat' (first
        | (refine wq_skip (by rfl) ?_; try simp only [Act.put, List.setIfInBounds_toArray, List.set_cons_zero, List.set_cons_succ])
        | (refine wq_take (by rfl) ?_ (fun W hW => ?_) ?_
           rotate_left
           focus
             obtain ⟨d0, d1, d2, d3, d4, d5, d6, d7⟩ := CA W hW
             obtain ⟨p0, p1, p2, p3, p4, p5, p6, p7⟩ := CB W hW
             go_simp
             first
               | done
               | with_reducible rfl
               | (go_at_call 90; exact (TA W hW).out)
           try simp only [Act.put, List.setIfInBounds_toArray, List.set_cons_zero, List.set_cons_succ]))
      refine wq_nil (fun w5 hW => ?_)
      clear TA CA CB
      simp only [Exit.then]
      go_wp2_with fail
      go_roundw
      case rel => exact ⟨k + 1, by omega, by go_num, hW⟩
      case measure => simp [intOf]; omega
    · obtain rfl : k = n := by omega
      have hnk : ¬ (k : Int) < (k : Int) := by omega
      go_wp2_with fail
      go_ret
      exact ⟨rfl, hbq⟩

theorem getD_app {us : List VerR} {j : Nat} {x : VerR} (hj : j < us.length) : (us ++ [x]).getD j VerR.zero = us.getD j VerR.zero := by
  rw [List.getD_eq_getElem?_getD, List.getD_eq_getElem?_getD, List.getElem?_append_left hj]
/-- Lent versions, as a list that came in. -/
theorem LentN.vers {w0 w w1 : World} {B g cap n : Nat} {A : Option Addr} {us vs : List VerR} (h : LentN w0 w B g cap n n us vs) (I : VersIn w1 A n vs) (hn : n ≤ 1000) : VersIn w (some ⟨g, 0, none⟩) n us := by
  refine ⟨h.len, by omega, fun h0 => ⟨g, 0, rfl, ?_, fun j hj k hk => ?_⟩, fun j hj => ?_⟩
  · rcases h.row.2 with ⟨h', _⟩ | ⟨g', cap', cur, h', hB, hh, _⟩
    · simp at h'
    · simp only [Value.slice.injEq, Option.some.injEq, Addr.mk.injEq, and_true] at h'
      obtain ⟨rfl, _, _⟩ := h'
      have E : Blk w g 44 cur := hh
      exact E.lt
  · have hju : j < us.length := by rw [h.len]; exact hj
    rw [Nat.zero_add, VRow.cell h.row (by rw [List.length_append]; omega) hk, getD_app hju]
  · obtain ⟨A2, c2, e, hl⟩ := h.done j hj
    have V := I.each j hj
    obtain ⟨A1, c1, e1, I1, _⟩ := hl.nums.ints V.ints.wf
    injection e1 with f1 f2 f3
    subst f1
    rw [e]
    exact ⟨I1, V.ks, V.ow, V.xw, V.kw, V.nw, V.iw, V.ts⟩
theorem lent_same {w0 w : World} {B g cap n : Nat} {us vs : List VerR} (h : LentN w0 w B g cap n n us vs) (hr : ∀ r ∈ vs, sameR r r = true) (hl : vs.length = n) : ∀ j, j < n → sameR (us.getD j VerR.zero) (vs.getD j VerR.zero) = true := by
  intro j hj
  obtain ⟨A2, c2, e, _⟩ := h.done j hj
  rw [e, sameR_at]
  refine hr _ ?_
  rw [List.getD_eq_getElem?_getD, List.getElem?_eq_getElem (by omega)]
  exact List.getElem_mem _
theorem lent_s6 {w0 w : World} {B g cap n : Nat} {us vs : List VerR} (h : LentN w0 w B g cap n n us vs) (hl : vs.length = n) : us.map s6 = vs.map s6 := by
  apply List.ext_getElem
  · rw [List.length_map, List.length_map, h.len, hl]
  · intro j h1 h2
    have h1' : j < us.length := by simpa using h1
    have h2' : j < vs.length := by simpa using h2
    obtain ⟨A2, c2, e, _⟩ := h.done j (by omega)
    rw [List.getD_eq_getElem?_getD, List.getD_eq_getElem?_getD, List.getElem?_eq_getElem h1', List.getElem?_eq_getElem h2'] at e
    simp only [List.getElem_map]
    have e : us[j] = vs[j].at_ A2 vs[j].xs.length c2 := e
    rw [e, s6_at]

set_option maxRecDepth 100000 in
set_option maxHeartbeats 4000000 in
theorem staysvers_any (w0 : World) (B g cap : Nat) (us : List VerR) (A : Option Addr) (n c : Nat) (vs : List VerR) (w : World) (HL : LentN w0 w B g cap n n us vs) (hB : B ≤ w0.heap.size) (I : VersIn w A n vs) (hn : n ≤ 1000)
    (hx : ∀ j, j < n → (vs.getD j VerR.zero).n ≤ 100000) (hr : ∀ r ∈ vs, sameR r r = true) :
    Calls Tryd.prog 31 #[.slice (some ⟨g, 0, none⟩) n cap, .slice A n c] w fun e w' => e = .returned (.bool true) ∧ Below w.heap.size w w' := by
  have HL := Lib.hid HL
  have I := Lib.hid I
  have HX := Lib.hid hx
  have SV := fun W (hW : Below w.heap.size w W) => Lib.hid (samevers_any (some ⟨g, 0, none⟩) n cap us A c vs W ((HL.out.on hB hW).vers I.out hn) (I.out.below hW) hn (lent_same HL.out hr I.out.len))
  have HM := fun W (hW : Below w.heap.size w W) => Lib.hid (VRow.cell (HL.out.on hB hW).row (j := n) (k := 0) (by rw [List.length_append, HL.out.len]; exact Nat.lt_succ_self n) (by decide))
  have hmk : (us ++ [markR]).getD n VerR.zero = markR := by
    have hl := HL.out.len
    subst hl
    rw [List.getD_eq_getElem?_getD, List.getElem?_append_right (Nat.le_refl _), Nat.sub_self]
    rfl
  rw [hmk] at HM
  have HM2 : ∀ W, Below w.heap.size w W → Hid (W.cell? ⟨g, n * 8, none⟩ = some (.string ⟨#[109, 97, 114, 107]⟩)) := fun W hW => (HM W hW).out
  have hcap : n + 1 ≤ cap := HL.out.room
  have hcap' : (n : Int) + 1 ≤ (cap : Int) := by omega
  have hn' : (n : Int) ≤ 1000 := by omega
  clear hx hr HM hmk
  go_enter Tryd.func31, Tryd.ntmps31
  go_wp2_with fail
  go_loopw [5] (fun i wr => ∃ k : Nat, k ≤ n ∧ i = .int .i64 (k : Int) ∧ Below w.heap.size w wr) (fun i _ => n - (intOf i).toNat)
  case atStart => exact ⟨0, by omega, rfl, Below.refl _ _⟩
  case round =>
    obtain ⟨k, hk, rfl, hbq⟩ := hrel
    by_cases hkn : k < n
    · obtain ⟨r, hr⟩ : ∃ r, vs.getD k VerR.zero = r := ⟨_, rfl⟩
      obtain ⟨A1, c1, hu, hl⟩ := HL.out.done k hkn
      rw [hr] at hu hl
      obtain ⟨b2, o2, rfl, _, _⟩ := I.out.some (by omega)
      have CA : ∀ W, Below w.heap.size w W → W.cell? ⟨g, k * 8 + 1, none⟩ = some (.slice A1 r.xs.length c1) := fun W hW => by
        have h1 := VRow.cell (HL.out.on hB hW).row (j := k) (k := 1) (by rw [List.length_append, HL.out.len]; omega) (by decide)
        rw [getD_app (by rw [HL.out.len]; exact hkn), hu] at h1
        exact h1
      have CB : ∀ W, Below w.heap.size w W → _ := fun W hW => VersIn.at_ ((I.out.below hW).some (by omega) |> fun ⟨b', off', hA, _, hc⟩ => by cases hA; exact hc) hkn hr
      have RR : Hid (r.in_ w) := by rw [← hr]; exact I.out.each k hkn
      have hrx : r.xs.length ≤ 100000 := by rw [RR.out.ints.len, ← hr]; exact HX.out k hkn
      have TA : ∀ W, Below w.heap.size w W → Hid (Calls Tryd.prog 61 #[.slice A1 r.xs.length c1, .slice r.A r.n r.c] W fun e w' => e = .returned (.bool true) ∧ Below w.heap.size w w') := fun W hW => ((stays_any B _ r.xs r.A r.n r.c r.xs W (hl.below hW (Nat.le_refl _)) RR.out.ints.wf hrx (RR.out.below hW).ints).mono fun e w' ⟨he, q, hq⟩ => (⟨by rw [he, decide_eq_true rfl], by rw [hq]; exact below_drewN hW q⟩ : _ ∧ Below w.heap.size w w'))
      have hkn' : (k : Int) < (n : Int) := by omega
      clear hu hr hl RR hrx
      go_wp2_with fail
      refine wp_region_wq (fun W => Below w.heap.size w W) (by kernel_rfl) (by kernel_rfl) hbq.drew ?_
      repeat' (first
        | (refine wq_skip (by rfl) ?_; try simp only [Act.put, List.setIfInBounds_toArray, List.set_cons_zero, List.set_cons_succ])
        | (refine wq_take (by rfl) ?_ (fun W hW => ?_) ?_
           rotate_left
           focus
             have d1 := CA W hW
             obtain ⟨p0, p1, p2, p3, p4, p5, p6, p7⟩ := CB W hW
             go_simp
             first
               | done
               | with_reducible rfl
               | (go_at_call 61; exact (TA W hW).out)
           try simp only [Act.put, List.setIfInBounds_toArray, List.set_cons_zero, List.set_cons_succ]))
      refine wq_nil (fun w5 hW => ?_)
      clear TA CA CB
      simp only [Exit.then]
      go_wp2_with fail
      go_roundw
      case rel => exact ⟨k + 1, by omega, by go_num, hW⟩
      case measure => simp [intOf]; omega
    · obtain rfl : k = n := by omega
      have hnk : ¬ (k : Int) < (k : Int) := by omega
      have hk1 : (k : Int) < (k : Int) + 1 := by omega
      go_wp2_with fail
      refine (SV _ hbq).out.mono ?_
      rintro e w5 ⟨rfl, g5⟩
      have hb5 := hbq.trans (g5.mono hbq.size)
      have hm := (HM2 _ hb5).out
      clear SV HM2
      go_wp2_with fail
      go_ret
      exact ⟨rfl, hb5⟩
end Go.Proofs.YthacdegaeokgnaaDoor
