/-
  Package net, part 6: Tried around steps on a net; Send.
-/
import Derived.Test.YtlogdbbaefpapaaNet5
namespace Go.Proofs.Ytlogdbbaefpapaa
open Go.RowKit Go.Maps

theorem endP_cases (er : Int) {e : Ending} (h : e = endP er) : (e = .returned (.tuple #[]) ∧ er = 0) ∨ e = gaveUp er := by
  unfold endP at h
  by_cases h0 : er = 0
  · rw [if_pos h0] at h; exact Or.inl ⟨h, h0⟩
  · rw [if_neg h0] at h; exact Or.inr h

/-- What is no net's block is turned: the net stays. -/
theorem NetAt.far {B p k : Nat} {w : World} {x : N8} (h : NetAt B p k w x) {q : Nat} {t : TypeId} {cs : Array Value} (hb : Blk w q t cs) (ht : netObj (.cells cs t (0, 0)) = false) (i : Nat) (u : Value) : NetAt B p k (w.setCell ⟨q, i, none⟩ u) x :=
  h.fr (B' := 0) (T := fun o => !netObj o) ((Fr.refl 0 _ w).setCell (p := ⟨q, i, none⟩) (Or.inr ⟨Nat.zero_le _, _, hb, by rw [ht]; rfl⟩) u) (fun o ho => by rw [ho]; rfl)

/-- Steps on a net, tried. -/
theorem tried_net (fn : Nat) (caps : Array Value) (w w4 : World) (B p k : Nat) (x : N8) (er : Int) (hcf : ∀ w, (callFunc fn caps).run Try.prog w = .ok (.enter fn caps) w) (hg : w.grownBy w4 none)
    (hc : Calls Try.prog fn caps (w4.alloc (.cells #[.int .i64 0] 33)) fun e w' => e = endP er ∧ NetAt B p k w' x ∧ Fr B netObj (w4.alloc (.cells #[.int .i64 0] 33)) w') :
    Calls Try.prog 26 #[.func (Fn.func fn) #[] caps] w4 fun e w' => e = .returned (.int .i64 er) ∧ NetAt B p k w' x ∧ Fr B netObj w w' := by
  refine (tried_any fn caps w4 (fun y w' => y = er ∧ NetAt B p k w' x ∧ Fr B netObj w w' ∧ Blk w' w4.heap.size 33 #[.int .i64 0]) hcf (hc.mono ?_)).mono ?_
  · rintro e w' ⟨he, hN, hF⟩
    have hb := hF.blk (Blk.new w4 33 #[.int .i64 0]) rfl
    exact ⟨er, endP_cases er he, hb, rfl, hN, ((Fr.of_grown hg).alloc _).trans hF, hb⟩
  · rintro e w' ⟨y, w1, rfl, ⟨rfl, hN, hF, hb⟩, rfl⟩
    exact ⟨rfl, hN.far hb rfl _ _, hF.setCell (Or.inl hg.size) _⟩

/-- Steps that turn nothing, tried. -/
theorem tried_none (fn : Nat) (caps : Array Value) (w w4 : World) (er : Int) (hcf : ∀ w, (callFunc fn caps).run Try.prog w = .ok (.enter fn caps) w) (hg : w.grownBy w4 none)
    (hc : Calls Try.prog fn caps (w4.alloc (.cells #[.int .i64 0] 33)) fun e w' => e = endP er ∧ (w4.alloc (.cells #[.int .i64 0] 33)).grownBy w' none) :
    Calls Try.prog 26 #[.func (Fn.func fn) #[] caps] w4 fun e w' => e = .returned (.int .i64 er) ∧ w.grownBy w' none := by
  refine (tried_any fn caps w4 (fun y w' => y = er ∧ w.grownBy w' none) hcf (hc.mono ?_)).mono ?_
  · rintro e w' ⟨he, hF⟩
    exact ⟨er, endP_cases er he, (Blk.new w4 33 #[.int .i64 0]).grown hF (by simp), rfl, kgrow_none (kgrow_none hg (World.grownBy_alloc _ _ _)) hF⟩
  · rintro e w' ⟨y, w1, rfl, ⟨rfl, hF⟩, rfl⟩
    exact ⟨rfl, grown_set hF hg.size _⟩

set_option maxRecDepth 100000 in
set_option maxHeartbeats 2000000 in
/-- Send, of a net. -/
theorem send_any (B p k : Nat) (x8 : N8) (f t : Int) (s : ByteArray) (w : World)
    (hN : NetAt B p k w x8) (h0 : 0 ≤ x8.lost) (h1 : x8.lost < 9223372036854775807) (hL : x8.L.length ≤ 400) (hf : (Lit.int .i64 f).wf = true) (ht : (Lit.int .i64 t).wf = true) (hs : s.size ≤ 9223372036854775807) (hB : B ≤ w.heap.size) :
    Calls Try.prog 10 #[.pointer (some ⟨p, 0, none⟩), .int .i64 f, .int .i64 t, .string s] w fun e w' => e = .returned (.int .i64 (sendP x8 f t s).1) ∧ NetAt B p k w' (sendP x8 f t s).2 ∧ Fr B netObj w w' := by
  have hmf : ∀ (fn : Fn) (first cap : Array Value) (w : World), (Instr.makeFunc fn first cap).run Try.prog w = .ok (.func fn first cap) w := fun _ _ _ _ => rfl
  have T := Lib.hid (tried_net 27 #[.pointer (some ⟨w.heap.size, 0, none⟩), .pointer (some ⟨w.heap.size + 1, 0, none⟩), .pointer (some ⟨w.heap.size + 2, 0, none⟩), .pointer (some ⟨w.heap.size + 3, 0, none⟩)] w
    ((((w.alloc (.cells #[.pointer (some ⟨p, 0, none⟩)] 24)).alloc (.cells #[.int .i64 f] 3)).alloc (.cells #[.int .i64 t] 3)).alloc (.cells #[.string s] 9)) B p k (sendP x8 f t s).2 (sendP x8 f t s).1 (fun _ => rfl)
    (kgrow_none (kgrow_none (kgrow_none (World.grownBy_alloc _ _ _) (World.grownBy_alloc _ _ _)) (World.grownBy_alloc _ _ _)) (World.grownBy_alloc _ _ _)) (by
      have hg : w.grownBy (((((w.alloc (.cells #[.pointer (some ⟨p, 0, none⟩)] 24)).alloc (.cells #[.int .i64 f] 3)).alloc (.cells #[.int .i64 t] 3)).alloc (.cells #[.string s] 9)).alloc (.cells #[.int .i64 0] 33)) none :=
        kgrow_none (kgrow_none (kgrow_none (kgrow_none (World.grownBy_alloc _ _ _) (World.grownBy_alloc _ _ _)) (World.grownBy_alloc _ _ _)) (World.grownBy_alloc _ _ _)) (World.grownBy_alloc _ _ _)
      have B0 : Blk (((((w.alloc (.cells #[.pointer (some ⟨p, 0, none⟩)] 24)).alloc (.cells #[.int .i64 f] 3)).alloc (.cells #[.int .i64 t] 3)).alloc (.cells #[.string s] 9)).alloc (.cells #[.int .i64 0] 33)) w.heap.size 24 #[.pointer (some ⟨p, 0, none⟩)] := ((((Blk.new _ _ _).alloc _).alloc _).alloc _).alloc _
      have B1 : Blk (((((w.alloc (.cells #[.pointer (some ⟨p, 0, none⟩)] 24)).alloc (.cells #[.int .i64 f] 3)).alloc (.cells #[.int .i64 t] 3)).alloc (.cells #[.string s] 9)).alloc (.cells #[.int .i64 0] 33)) (w.heap.size + 1) 3 #[.int .i64 f] := (((Blk.new' (by simp) _ _).alloc _).alloc _).alloc _
      have B2 : Blk (((((w.alloc (.cells #[.pointer (some ⟨p, 0, none⟩)] 24)).alloc (.cells #[.int .i64 f] 3)).alloc (.cells #[.int .i64 t] 3)).alloc (.cells #[.string s] 9)).alloc (.cells #[.int .i64 0] 33)) (w.heap.size + 2) 3 #[.int .i64 t] := ((Blk.new' (by simp) _ _).alloc _).alloc _
      have B3 : Blk (((((w.alloc (.cells #[.pointer (some ⟨p, 0, none⟩)] 24)).alloc (.cells #[.int .i64 f] 3)).alloc (.cells #[.int .i64 t] 3)).alloc (.cells #[.string s] 9)).alloc (.cells #[.int .i64 0] 33)) (w.heap.size + 3) 9 #[.string s] := (Blk.new' (by simp) _ _).alloc _
      generalize (((((w.alloc (.cells #[.pointer (some ⟨p, 0, none⟩)] 24)).alloc (.cells #[.int .i64 f] 3)).alloc (.cells #[.int .i64 t] 3)).alloc (.cells #[.string s] 9)).alloc (.cells #[.int .i64 0] 33)) = w5 at *
      have hN5 := hN.fr (Fr.of_grown (B := B) (T := fun _ => false) hg) (fun _ _ => rfl)
      cases hw : wayB x8.n f t with
      | true =>
        refine (sendstep_ok _ _ _ _ B p k x8 f t s w5 B0 B1 B2 B3 hN5 h0 h1 hL hw hf ht hs (Nat.le_trans hB hg.size)).mono ?_
        rintro e w' ⟨he, h⟩
        exact ⟨he, h⟩
      | false =>
        have e1 : sendP x8 f t s = (1, x8) := by unfold sendP; rw [hw]; rfl
        refine (sendstep_arg _ _ _ _ (.pointer (some ⟨p, 0, none⟩)) f t s w5 B0 B1 B2 B3 (fun W hW => ?_)).mono ?_
        · obtain ⟨m, sl, h2, _⟩ := hN5
          refine (between_any p x8.n f t W ((h2.grown hW (by simp)).cell 0)).mono ?_
          rintro e w' ⟨h | h, g⟩
          · rw [hw] at h; cases h.1
          · exact ⟨h.2, g⟩
        · rintro e w' ⟨rfl, g⟩
          rw [e1]
          exact ⟨rfl, hN5.fr (Fr.of_grown (B := B) (T := fun _ => false) g) (fun _ _ => rfl), Fr.of_grown g⟩))
  clear hN h0 h1 hL hf ht hs hB
  go_enter Try.func10, Try.ntmps10
  go_wp2_with fail
  refine T.out.mono ?_
  rintro e w1 ⟨rfl, h⟩
  have H := Lib.hid h
  clear h
  go_wp2_with fail
  go_ret
  exact ⟨rfl, H.out⟩
end Go.Proofs.Ytlogdbbaefpapaa
