/-
  Package skip, part 10: Put.
-/
import Derived.Test.YtmagkkkecihgmaaGreatSp9
namespace Go.Proofs.YtmagkkkecihgmaaGreat
open Go.RowKit

/-- A block of another type is none of a list's. -/
theorem SkZ.not_foot {B p : Nat} {w : World} {s : S10} {Z : List Z10} (h : SkZ B p w s Z) {q : Nat} {t : TypeId} {cs : Array Value} (hb : Blk w q t cs) (h1 : t ≠ 33) (h2 : t ≠ 36) : ¬ Foot p Z q := by
  rintro (rfl | ⟨m, hm, rfl⟩)
  · obtain ⟨cs', hc⟩ := h.at_.hd.ty
    exact hb.ne_ hc h2 rfl
  · obtain ⟨i, hi⟩ := List.mem_iff_getElem?.1 hm
    obtain ⟨cs', hc⟩ := (h.at_.nd i m hi).ty
    exact hb.ne_ hc h1 rfl
theorem SkZ.far {B p : Nat} {w : World} {s : S10} {Z : List Z10} (h : SkZ B p w s Z) {q : Addr} (hq : ¬ Foot p Z q.block) (u : Value) : SkZ B p (w.setCell q u) s Z := ⟨h.map, h.at_.far hq u, h.rise, h.ok⟩
theorem SkZ.foot_lt {B p : Nat} {w : World} {s : S10} {Z : List Z10} (h : SkZ B p w s Z) {k : Nat} (hk : Foot p Z k) : B ≤ k ∧ k < w.heap.size := h.at_.foot_lt hk
/-- The pairs' blocks are old ones, or new. -/
def Grew (n : Nat) (Z Z' : List Z10) : Prop := ∀ m ∈ Z', m ∈ Z ∨ n ≤ m.1
theorem Grew.refl (n : Nat) (Z : List Z10) : Grew n Z Z := fun _ h => Or.inl h
theorem Grew.foot {n p k : Nat} {Z Z' : List Z10} (g : Grew n Z Z') (h : Foot p Z' k) : Foot p Z k ∨ n ≤ k := by
  rcases h with h | ⟨m, hm, rfl⟩
  · exact Or.inl (Or.inl h)
  · rcases g m hm with h | h
    · exact Or.inl (Or.inr ⟨m, h, rfl⟩)
    · exact Or.inr h

theorem tried_sk (fn : Nat) (caps : Array Value) (w w4 : World) (B p : Nat) (Z : List Z10) (s' : S10) (er : Int) (hcf : ∀ w, (callFunc fn caps).run Tryz.prog w = .ok (.enter fn caps) w) (hg : w.grownBy w4 none) (hfoot : ∀ k, Foot p Z k → k < w.heap.size)
    (hc : Calls Tryz.prog fn caps (w4.alloc (.cells #[.int .i64 0] 56)) fun e w' => ((e = .returned (.tuple #[]) ∧ er = 0) ∨ e = gaveUp er) ∧ ∃ Z', SkZ B p w' s' Z' ∧ Tu (Foot p Z) (w4.alloc (.cells #[.int .i64 0] 56)) w' ∧ Grew w.heap.size Z Z') :
    Calls Tryz.prog 28 #[.func (Fn.func fn) #[] caps] w4 fun e w' => e = .returned (.int .i64 er) ∧ ∃ Z', SkZ B p w' s' Z' ∧ Tu (Foot p Z) w w' ∧ Grew w.heap.size Z Z' := by
  refine (tried_any fn caps w4 (fun y w' => y = er ∧ (∃ Z', SkZ B p w' s' Z' ∧ Tu (Foot p Z) w w' ∧ Grew w.heap.size Z Z') ∧ Blk w' w4.heap.size 56 #[.int .i64 0]) hcf (hc.mono ?_)).mono ?_
  · rintro e w' ⟨he, Z', hN, hF, hG⟩
    have hb := hF.blk (Blk.new w4 56 #[.int .i64 0]) (fun h => by have := hfoot _ h; have := hg.size; omega)
    exact ⟨er, he, hb, rfl, ⟨Z', hN, ((Tu.of_grown hg).alloc _).trans hF, hG⟩, hb⟩
  · rintro e w' ⟨y, w1, rfl, ⟨rfl, ⟨Z', hN, hF, hG⟩, hb⟩, rfl⟩
    exact ⟨rfl, Z', hN.far (q := ⟨w4.heap.size, 0, none⟩) (hN.not_foot hb (by decide) (by decide)) _, hF.setCell (p := ⟨w4.heap.size, 0, none⟩) (Or.inl hg.size) _, hG⟩

set_option maxRecDepth 100000 in
set_option maxHeartbeats 4000000 in
theorem skput_any {B p : Nat} {s : S10} {w : World} {Z : List Z10} (h : SkZ B p w s Z) (key value : ByteArray) (ht : Int) (hB : B ≤ w.heap.size) (hL : s.L.length ≤ 100000) :
    Calls Tryz.prog 6 #[.pointer (some ⟨p, 0, none⟩), .string key, .string value, .int .i64 ht] w fun e w' => e = .returned (.int .i64 (putL s key value ht).1) ∧ ∃ Z', SkZ B p w' (putL s key value ht).2 Z' ∧ Tu (Foot p Z) w w' ∧ Grew w.heap.size Z Z' := by
  have hmf : ∀ (fn : Fn) (first cap : Array Value) (w : World), (Instr.makeFunc fn first cap).run Tryz.prog w = .ok (.func fn first cap) w := fun _ _ _ _ => rfl
  have T := Lib.hid (tried_sk 29 #[.pointer (some ⟨w.heap.size, 0, none⟩), .pointer (some ⟨w.heap.size + 1, 0, none⟩), .pointer (some ⟨w.heap.size + 2, 0, none⟩), .pointer (some ⟨w.heap.size + 3, 0, none⟩)] w
    ((((w.alloc (.cells #[.pointer (some ⟨p, 0, none⟩)] 24)).alloc (.cells #[.string key] 9)).alloc (.cells #[.string value] 9)).alloc (.cells #[.int .i64 ht] 3)) B p Z (putL s key value ht).2 (putL s key value ht).1 (fun _ => rfl)
    (gnone (gnone (gnone (World.grownBy_alloc _ _ _) (World.grownBy_alloc _ _ _)) (World.grownBy_alloc _ _ _)) (World.grownBy_alloc _ _ _)) (fun k hk => (h.foot_lt hk).2) (by
      have hg : w.grownBy (((((w.alloc (.cells #[.pointer (some ⟨p, 0, none⟩)] 24)).alloc (.cells #[.string key] 9)).alloc (.cells #[.string value] 9)).alloc (.cells #[.int .i64 ht] 3)).alloc (.cells #[.int .i64 0] 56)) none :=
        gnone (gnone (gnone (gnone (World.grownBy_alloc _ _ _) (World.grownBy_alloc _ _ _)) (World.grownBy_alloc _ _ _)) (World.grownBy_alloc _ _ _)) (World.grownBy_alloc _ _ _)
      have B0 : Blk (((((w.alloc (.cells #[.pointer (some ⟨p, 0, none⟩)] 24)).alloc (.cells #[.string key] 9)).alloc (.cells #[.string value] 9)).alloc (.cells #[.int .i64 ht] 3)).alloc (.cells #[.int .i64 0] 56)) w.heap.size 24 #[.pointer (some ⟨p, 0, none⟩)] := ((((Blk.new _ _ _).alloc _).alloc _).alloc _).alloc _
      have B1 : Blk (((((w.alloc (.cells #[.pointer (some ⟨p, 0, none⟩)] 24)).alloc (.cells #[.string key] 9)).alloc (.cells #[.string value] 9)).alloc (.cells #[.int .i64 ht] 3)).alloc (.cells #[.int .i64 0] 56)) (w.heap.size + 1) 9 #[.string key] := (((Blk.new' (by simp) _ _).alloc _).alloc _).alloc _
      have B2 : Blk (((((w.alloc (.cells #[.pointer (some ⟨p, 0, none⟩)] 24)).alloc (.cells #[.string key] 9)).alloc (.cells #[.string value] 9)).alloc (.cells #[.int .i64 ht] 3)).alloc (.cells #[.int .i64 0] 56)) (w.heap.size + 2) 9 #[.string value] := ((Blk.new' (by simp) _ _).alloc _).alloc _
      have B3 : Blk (((((w.alloc (.cells #[.pointer (some ⟨p, 0, none⟩)] 24)).alloc (.cells #[.string key] 9)).alloc (.cells #[.string value] 9)).alloc (.cells #[.int .i64 ht] 3)).alloc (.cells #[.int .i64 0] 56)) (w.heap.size + 3) 3 #[.int .i64 ht] := (Blk.new' (by simp) _ _).alloc _
      generalize (((((w.alloc (.cells #[.pointer (some ⟨p, 0, none⟩)] 24)).alloc (.cells #[.string key] 9)).alloc (.cells #[.string value] 9)).alloc (.cells #[.int .i64 ht] 3)).alloc (.cells #[.int .i64 0] 56)) = w5 at *
      have h5 := h.up hg
      have no : ∀ er, putL s key value ht = (er, s) → Calls Tryz.prog 29 #[.pointer (some ⟨w.heap.size, 0, none⟩), .pointer (some ⟨w.heap.size + 1, 0, none⟩), .pointer (some ⟨w.heap.size + 2, 0, none⟩), .pointer (some ⟨w.heap.size + 3, 0, none⟩)] w5 (fun e w' => e = gaveUp er ∧ w5.grownBy w' none) →
          Calls Tryz.prog 29 #[.pointer (some ⟨w.heap.size, 0, none⟩), .pointer (some ⟨w.heap.size + 1, 0, none⟩), .pointer (some ⟨w.heap.size + 2, 0, none⟩), .pointer (some ⟨w.heap.size + 3, 0, none⟩)] w5 fun e w' => ((e = .returned (.tuple #[]) ∧ (putL s key value ht).1 = 0) ∨ e = gaveUp (putL s key value ht).1) ∧ ∃ Z', SkZ B p w' (putL s key value ht).2 Z' ∧ Tu (Foot p Z) w5 w' ∧ Grew w.heap.size Z Z' := by
        intro er e0 hc
        rw [e0]
        refine hc.mono ?_
        rintro e w' ⟨rfl, g⟩
        exact ⟨Or.inr rfl, Z, h5.up g, Tu.of_grown g, Grew.refl _ _⟩
      cases hf : s.frozen with
      | true => exact no 30 (by unfold putL; rw [hf]; rfl) (putstep_froz _ _ _ _ B0 (by have := h5.at_.hd.froz; rwa [hf] at this))
      | false =>
        by_cases hl : 65536 < key.size ∨ 65536 < value.size
        · exact no 2 (by unfold putL; rw [hf]; simp [hl]) (putstep_long _ _ _ _ key value B0 B1 B2 (by have := h5.at_.hd.froz; rwa [hf] at this) hl)
        · cases hh : hasL s.L key with
          | true => exact no 23 (by unfold putL; rw [hf, hh]; simp [hl]) (putstep_there _ _ _ _ key value B0 B1 B2 h5 hL hf (by omega) (by omega) hh)
          | false =>
            rw [show putL s key value ht = (0, { s with L := insL s.L (placeL s.L key) (key, value, clampH ht) }) by unfold putL; rw [hf, hh]; simp [hl]]
            refine (putstep_ok _ _ _ _ key value ht B0 B1 B2 B3 h5 (Nat.le_trans hB hg.size) hL hf (by omega) (by omega) hh).mono ?_
            rintro e w' ⟨rfl, a, ha, hZ, hT⟩
            refine ⟨Or.inl ⟨rfl, rfl⟩, _, hZ, hT, fun m hm => ?_⟩
            unfold insZ at hm
            rw [List.mem_append, List.mem_append, List.mem_singleton] at hm
            rcases hm with (hm | hm) | hm
            · exact Or.inl (List.mem_of_mem_take hm)
            · subst hm
              exact Or.inr (Nat.le_trans hg.size ha)
            · exact Or.inl (List.mem_of_mem_drop hm)))
  clear h hB hL
  go_enter Tryz.func6, Tryz.ntmps6
  go_wp2_with fail
  refine T.out.mono ?_
  rintro e w1 ⟨rfl, h⟩
  have H := Lib.hid h
  clear h
  go_wp2_with fail
  go_ret
  exact ⟨rfl, H.out⟩
set_option maxRecDepth 100000 in
set_option maxHeartbeats 4000000 in
theorem skput_nil (key value : ByteArray) (ht : Int) (w : World) :
    Calls Tryz.prog 6 #[.pointer none, .string key, .string value, .int .i64 ht] w fun e w' => e = .returned (.int .i64 1) ∧ w.grownBy w' none := by
  have hmf : ∀ (fn : Fn) (first cap : Array Value) (w : World), (Instr.makeFunc fn first cap).run Tryz.prog w = .ok (.func fn first cap) w := fun _ _ _ _ => rfl
  have hg4 : w.grownBy ((((w.alloc (.cells #[.pointer none] 24)).alloc (.cells #[.string key] 9)).alloc (.cells #[.string value] 9)).alloc (.cells #[.int .i64 ht] 3)) none := gnone (gnone (gnone (World.grownBy_alloc _ _ _) (World.grownBy_alloc _ _ _)) (World.grownBy_alloc _ _ _)) (World.grownBy_alloc _ _ _)
  have T := Lib.hid ((tried_any 29 #[.pointer (some ⟨w.heap.size, 0, none⟩), .pointer (some ⟨w.heap.size + 1, 0, none⟩), .pointer (some ⟨w.heap.size + 2, 0, none⟩), .pointer (some ⟨w.heap.size + 3, 0, none⟩)]
    ((((w.alloc (.cells #[.pointer none] 24)).alloc (.cells #[.string key] 9)).alloc (.cells #[.string value] 9)).alloc (.cells #[.int .i64 ht] 3)) (fun er w' => er = 1 ∧ w.grownBy w' none) (fun _ => rfl) (by
      have B0 : Blk (((((w.alloc (.cells #[.pointer none] 24)).alloc (.cells #[.string key] 9)).alloc (.cells #[.string value] 9)).alloc (.cells #[.int .i64 ht] 3)).alloc (.cells #[.int .i64 0] 56)) w.heap.size 24 #[.pointer none] := ((((Blk.new _ _ _).alloc _).alloc _).alloc _).alloc _
      refine (putstep_nil _ _ _ _ B0).mono ?_
      rintro e w' ⟨rfl, g⟩
      exact ⟨1, Or.inr rfl, (Blk.new _ _ _).grown g (by simp), rfl, gnone (gnone hg4 (World.grownBy_alloc _ _ _)) g⟩)).mono (R' := fun e w' => e = .returned (.int .i64 1) ∧ w.grownBy w' none) (by
      rintro e w1 ⟨er, w2, rfl, ⟨rfl, g⟩, rfl⟩
      exact ⟨rfl, grown_new g (only_setCell (grefl w2 (some _)) (p := ⟨((((w.alloc (.cells #[.pointer none] 24)).alloc (.cells #[.string key] 9)).alloc (.cells #[.string value] 9)).alloc (.cells #[.int .i64 ht] 3)).heap.size, 0, none⟩) (Or.inl rfl) (.int .i64 1)) hg4.size⟩))
  clear hg4
  go_enter Tryz.func6, Tryz.ntmps6
  go_wp2_with fail
  refine T.out.mono ?_
  rintro e w1 ⟨rfl, h⟩
  have H := Lib.hid h
  clear h
  go_wp2_with fail
  go_ret
  exact ⟨rfl, H.out⟩
end Go.Proofs.YtmagkkkecihgmaaGreat
