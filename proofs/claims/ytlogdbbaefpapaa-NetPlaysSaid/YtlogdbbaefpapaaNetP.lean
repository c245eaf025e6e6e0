/-
  NetPlays, what its walk leans on: both nets and the step at hand in one; what each call makes of them.
-/
import Derived.Test.YtlogdbbaefpapaaNetR5
import Derived.Test.YtlogdbbaefpapaaView4
import Derived.Deep.RegionHeld3
import Derived.Test.YtlogdbbaefpapaaQuiet
namespace Go.Proofs.Ytlogdbbaefpapaa
open Go.RowKit Go.Maps

/-- Bounds of a net, plain. -/
structure Inv (M k : Nat) (x : N8) : Prop where
  n1 : 1 ≤ x.n
  n8 : x.n ≤ 8
  l0 : 0 ≤ x.lost
  l1 : x.lost ≤ (M : Int)
  len : x.L.length ≤ 400
  cl : x.C.length ≤ k
theorem Inv.mono {M M' k k' : Nat} {x : N8} (h : Inv M k x) (hM : M ≤ M') (hk : k ≤ k') : Inv M' k' x := ⟨h.n1, h.n8, h.l0, by have := h.l1; omega, h.len, Nat.le_trans h.cl hk⟩
theorem Inv.send {M k : Nat} {x : N8} (h : Inv M k x) (f t : Int) (s : ByteArray) : Inv (M + 1) k (sendP x f t s).2 := by
  have h0 := h.l0
  have h1 := h.l1
  unfold sendP
  split
  · exact h.mono (by omega) (Nat.le_refl _)
  · split
    · exact h.mono (by omega) (Nat.le_refl _)
    · split
      · exact ⟨h.n1, h.n8, by dsimp only; omega, by dsimp only; omega, h.len, h.cl⟩
      · rename_i hc
        have : ¬ 400 ≤ x.L.length := fun hl => hc (by rw [decide_eq_true hl, Bool.or_true])
        exact ⟨h.n1, h.n8, h.l0, by dsimp only; omega, by dsimp only; simp; omega, h.cl⟩
theorem Inv.out {M k : Nat} {x : N8} (h : Inv M k x) (i : Int) : Inv M k (outP x i) := ⟨h.n1, h.n8, h.l0, h.l1, by have := h.len; simp [outP]; omega, h.cl⟩
theorem Inv.deliver {M k : Nat} {x : N8} (h : Inv M k x) (i : Int) : Inv M k (deliverP x i) := by
  unfold deliverP
  cases atP x i
  · exact h
  · exact h.out i
theorem Inv.drop {M k : Nat} {x : N8} (h : Inv M k x) (i : Int) : Inv (M + 1) k (dropP x i).2 := by
  have h0 := h.l0
  have h1 := h.l1
  have ho := h.out i
  unfold dropP
  cases atP x i
  · exact h.mono (by omega) (Nat.le_refl _)
  · exact ⟨ho.n1, ho.n8, by dsimp only; omega, by dsimp only; omega, ho.len, ho.cl⟩
theorem Inv.twice {M k : Nat} {x : N8} (h : Inv M k x) (i : Int) : Inv M k (twiceP x i).2 := by
  unfold twiceP
  cases atP x i
  · exact h
  · dsimp only
    by_cases hl : 400 ≤ x.L.length
    · rw [decide_eq_true hl]; exact h
    · rw [decide_eq_false hl]
      exact ⟨h.n1, h.n8, h.l0, h.l1, by simp; omega, h.cl⟩
theorem Inv.cut {M k : Nat} {x : N8} (h : Inv M k x) (a b : Int) (c : Bool) : Inv M (k + 1) (cutP x a b c).2 := by
  have hc := h.cl
  unfold cutP
  split
  · exact h.mono (Nat.le_refl _) (by omega)
  · refine ⟨h.n1, h.n8, h.l0, h.l1, h.len, ?_⟩
    have h2 : (x.C.filter (fun y => !(y == (a, b)))).length ≤ x.C.length := List.length_filter_le _ _
    show (cutC x.C a b c).length ≤ k + 1
    unfold cutC
    rw [List.length_append]
    cases c <;> simp <;> omega

/-- Both nets and the step at hand. -/
structure St2 (w : World) (p q b k : Nat) (x y : N8) (cs : Array Value) (W : World) : Prop where
  net : NetAt w.heap.size p k W x
  ref : RAt w.heap.size q W y
  op : Blk W b 32 cs
  below : Below w.heap.size w W
section
variable {w : World} {p q b k : Nat} {x y : N8} {cs : Array Value} {W W' : World}
theorem St2.up (S : St2 w p q b k x y cs W) (h : W.grownBy W' none) : St2 w p q b k x y cs W' :=
  ⟨S.net.up h, S.ref.up h, S.op.grown h (by simp), S.below.trans ((Fr.of_grown (B := W.heap.size) (T := fun _ => false) h).below (Nat.le_refl _) |>.mono S.below.size)⟩
theorem St2.drew (S : St2 w p q b k x y cs W) : St2 w p q b k x y cs W.drew := S.up (kgrow_drew W)
theorem St2.mono {k' : Nat} (S : St2 w p q b k x y cs W) (h : k ≤ k') : St2 w p q b k' x y cs W := ⟨S.net.mono h, S.ref, S.op, S.below⟩
theorem St2.netTo {k' : Nat} {x' : N8} (S : St2 w p q b k x y cs W) (h : NetAt w.heap.size p k' W' x') (g : Fr w.heap.size netObj W W') : St2 w p q b k' x' y cs W' :=
  ⟨h, S.ref.net g, g.blk S.op rfl, S.below.trans (g.below S.below.size)⟩
theorem St2.refTo {y' : N8} (S : St2 w p q b k x y cs W) (h : RAt w.heap.size q W' y') (g : Fr w.heap.size refObj W W') : St2 w p q b k x y' cs W' :=
  ⟨S.net.ref g, h, g.blk S.op rfl, S.below.trans (g.below S.below.size)⟩
theorem St2.cells4 {a0 a1 a2 a3 : Value} (S : St2 w p q b k x y #[a0, a1, a2, a3] W) : W.cell? ⟨b, 0, none⟩ = some a0 ∧ W.cell? ⟨b, 1, none⟩ = some a1 ∧ W.cell? ⟨b, 2, none⟩ = some a2 ∧ W.cell? ⟨b, 3, none⟩ = some a3 := ⟨S.op.cell 0, S.op.cell 1, S.op.cell 2, S.op.cell 3⟩
variable {M c : Nat} {er : Int} {x' : N8} {m : Int × Int × ByteArray}
theorem st_send (S : St2 w p q b k x y cs W) (I : Inv M c x) (hM : M ≤ 100000) (f t : Int) (s : ByteArray) (wf : (Lit.int .i64 f).wf = true) (wt : (Lit.int .i64 t).wf = true) (hs : s.size ≤ 9223372036854775807) (e1 : sendP x f t s = (er, x')) :
    Calls Try.prog 10 #[.pointer (some ⟨p, 0, none⟩), .int .i64 f, .int .i64 t, .string s] W fun e w' => e = .returned (.int .i64 er) ∧ St2 w p q b k x' y cs w' := by
  have h := send_any w.heap.size p k x f t s W S.net I.l0 (by have := I.l1; omega) I.len wf wt hs S.below.size
  rw [e1] at h
  exact h.mono fun e w' ⟨h1, h2, h3⟩ => ⟨h1, S.netTo h2 h3⟩
theorem st_rsend (S : St2 w p q b k x y cs W) (I : Inv M c y) (hM : M ≤ 100000) (f t : Int) (s : ByteArray) (wf : (Lit.int .i64 f).wf = true) (wt : (Lit.int .i64 t).wf = true) (e1 : sendP y f t s = (er, x')) :
    Calls Try.prog 11 #[.pointer (some ⟨q, 0, none⟩), .int .i64 f, .int .i64 t, .string s] W fun e w' => e = .returned (.int .i64 er) ∧ St2 w p q b k x x' cs w' := by
  have h := rsend_any S.ref f t s S.below.size wf wt I.l0 (by have := I.l1; omega)
  rw [e1] at h
  exact h.mono fun e w' ⟨h1, h2, h3⟩ => ⟨h1, S.refTo h2 h3⟩
theorem st_peek (S : St2 w p q b k x y cs W) (I : Inv M c x) (i : Int) (e1 : peekP x i = (er, m)) :
    Calls Try.prog 12 #[.pointer (some ⟨p, 0, none⟩), .int .i64 i] W fun e w' => e = .returned (.tuple #[.int .i64 m.1, .int .i64 m.2.1, .string m.2.2, .int .i64 er]) ∧ St2 w p q b k x y cs w' := by
  have h := peek_any S.net (by have := I.n1; omega) i
  rw [e1] at h
  exact h.mono fun e w' ⟨h1, h2⟩ => ⟨h1, S.up h2⟩
theorem st_rpeek (S : St2 w p q b k x y cs W) (i : Int) (e1 : peekP y i = (er, m)) :
    Calls Try.prog 13 #[.pointer (some ⟨q, 0, none⟩), .int .i64 i] W fun e w' => e = .returned (.tuple #[.int .i64 m.1, .int .i64 m.2.1, .string m.2.2, .int .i64 er]) ∧ St2 w p q b k x y cs w' := by
  have h := rpeek_any S.ref i
  rw [e1] at h
  refine h.mono fun e w' ⟨h1, j, h2⟩ => ⟨h1, ?_⟩
  rw [h2]
  exact S.up (only_drewN (kgrow_refl W none) j)
theorem st_deliver (S : St2 w p q b k x y cs W) (I : Inv M c x) (i : Int) (e1 : peekP x i = (er, m)) (e2 : deliverP x i = x') :
    Calls Try.prog 14 #[.pointer (some ⟨p, 0, none⟩), .int .i64 i] W fun e w' => e = .returned (.tuple #[.int .i64 m.1, .int .i64 m.2.1, .string m.2.2, .int .i64 er]) ∧ St2 w p q b k x' y cs w' := by
  have h := deliver_any S.net (by have := I.n1; omega) i S.below.size
  rw [e1, e2] at h
  exact h.mono fun e w' ⟨h1, h2, h3⟩ => ⟨h1, S.netTo h2 h3⟩
theorem st_rdeliver (S : St2 w p q b k x y cs W) (I : Inv M c y) (i : Int) (e1 : peekP y i = (er, m)) (e2 : deliverP y i = x') :
    Calls Try.prog 15 #[.pointer (some ⟨q, 0, none⟩), .int .i64 i] W fun e w' => e = .returned (.tuple #[.int .i64 m.1, .int .i64 m.2.1, .string m.2.2, .int .i64 er]) ∧ St2 w p q b k x x' cs w' := by
  have h := rdeliver_any S.ref i I.len S.below.size
  rw [e1, e2] at h
  exact h.mono fun e w' ⟨h1, h2, h3⟩ => ⟨h1, S.refTo h2 h3⟩
theorem st_drop (S : St2 w p q b k x y cs W) (I : Inv M c x) (hM : M ≤ 100000) (i : Int) (e1 : dropP x i = (er, x')) :
    Calls Try.prog 16 #[.pointer (some ⟨p, 0, none⟩), .int .i64 i] W fun e w' => e = .returned (.int .i64 er) ∧ St2 w p q b k x' y cs w' := by
  have h := drop_any S.net (by have := I.n1; omega) i I.l0 (by have := I.l1; omega)
  rw [e1] at h
  exact h.mono fun e w' ⟨h1, h2, h3⟩ => ⟨h1, S.netTo h2 h3⟩
theorem st_rdrop (S : St2 w p q b k x y cs W) (I : Inv M c y) (hM : M ≤ 100000) (i : Int) (e1 : dropP y i = (er, x')) :
    Calls Try.prog 17 #[.pointer (some ⟨q, 0, none⟩), .int .i64 i] W fun e w' => e = .returned (.int .i64 er) ∧ St2 w p q b k x x' cs w' := by
  have h := rdrop_any S.ref i I.len S.below.size I.l0 (by have := I.l1; omega)
  rw [e1] at h
  exact h.mono fun e w' ⟨h1, h2, h3⟩ => ⟨h1, S.refTo h2 h3⟩
theorem st_twice (S : St2 w p q b k x y cs W) (I : Inv M c x) (i : Int) (e1 : twiceP x i = (er, x')) :
    Calls Try.prog 18 #[.pointer (some ⟨p, 0, none⟩), .int .i64 i] W fun e w' => e = .returned (.int .i64 er) ∧ St2 w p q b k x' y cs w' := by
  have h := twice_any S.net (by have := I.n1; omega) i I.len S.below.size
  rw [e1] at h
  exact h.mono fun e w' ⟨h1, h2, h3⟩ => ⟨h1, S.netTo h2 h3⟩
theorem st_rtwice (S : St2 w p q b k x y cs W) (i : Int) (e1 : twiceP y i = (er, x')) :
    Calls Try.prog 19 #[.pointer (some ⟨q, 0, none⟩), .int .i64 i] W fun e w' => e = .returned (.int .i64 er) ∧ St2 w p q b k x x' cs w' := by
  have h := rtwice_any S.ref i S.below.size
  rw [e1] at h
  exact h.mono fun e w' ⟨h1, h2, h3⟩ => ⟨h1, S.refTo h2 h3⟩
theorem st_cut (S : St2 w p q b k x y cs W) (hk : k < 1000) (f t : Int) (ct : Bool) (wf : (Lit.int .i64 f).wf = true) (wt : (Lit.int .i64 t).wf = true) (e1 : cutP x f t ct = (er, x')) :
    Calls Try.prog 20 #[.pointer (some ⟨p, 0, none⟩), .int .i64 f, .int .i64 t, .bool ct] W fun e w' => e = .returned (.int .i64 er) ∧ St2 w p q b (k + 1) x' y cs w' := by
  have h := cut_any S.net f t ct (by unfold maxLen; omega) wf wt
  rw [e1] at h
  exact h.mono fun e w' ⟨h1, h2, h3⟩ => ⟨h1, S.netTo h2 h3⟩
theorem st_rcut (S : St2 w p q b k x y cs W) (I : Inv M c y) (hc : c ≤ 1000) (f t : Int) (ct : Bool) (wf : (Lit.int .i64 f).wf = true) (wt : (Lit.int .i64 t).wf = true) (e1 : cutP y f t ct = (er, x')) :
    Calls Try.prog 21 #[.pointer (some ⟨q, 0, none⟩), .int .i64 f, .int .i64 t, .bool ct] W fun e w' => e = .returned (.int .i64 er) ∧ St2 w p q b k x x' cs w' := by
  have h := rcut_any S.ref f t ct (by have := I.cl; omega) S.below.size wf wt
  rw [e1] at h
  exact h.mono fun e w' ⟨h1, h2, h3⟩ => ⟨h1, S.refTo h2 h3⟩
/-! ### What turns nothing, in a class of worlds -/
theorem in_len (S : St2 w p q b k x y cs W) {V : World} (h : W.grownBy V none) : Calls Try.prog 22 #[.pointer (some ⟨p, 0, none⟩)] V fun e w' => e = .returned (.int .i64 (x.L.length : Int)) ∧ W.grownBy w' none :=
  (len_any (S.net.up h)).mono fun _ _ ⟨h1, h2⟩ => ⟨h1, by rw [h2]; exact h⟩
theorem in_lost (S : St2 w p q b k x y cs W) {V : World} (h : W.grownBy V none) : Calls Try.prog 23 #[.pointer (some ⟨p, 0, none⟩)] V fun e w' => e = .returned (.int .i64 x.lost) ∧ W.grownBy w' none :=
  (lost_any (S.net.up h)).mono fun _ _ ⟨h1, h2⟩ => ⟨h1, by rw [h2]; exact h⟩
theorem in_iscut (S : St2 w p q b k x y cs W) {V : World} (h : W.grownBy V none) (f t : Int) (wf : (Lit.int .i64 f).wf = true) (wt : (Lit.int .i64 t).wf = true) {r : Bool} (hr : x.C.contains (f, t) = r) : Calls Try.prog 24 #[.pointer (some ⟨p, 0, none⟩), .int .i64 f, .int .i64 t] V fun e w' => e = .returned (.bool r) ∧ W.grownBy w' none :=
  (iscut_any (S.net.up h) f t wf wt).mono fun _ _ ⟨h1, h2⟩ => ⟨by rw [h1, hr], kgrow_none h h2⟩
theorem in_riscut (S : St2 w p q b k x y cs W) {V : World} (h : W.grownBy V none) (f t : Int) (wf : (Lit.int .i64 f).wf = true) (wt : (Lit.int .i64 t).wf = true) {r : Bool} (hr : y.C.contains (f, t) = r) : Calls Try.prog 25 #[.pointer (some ⟨q, 0, none⟩), .int .i64 f, .int .i64 t] V fun e w' => e = .returned (.bool r) ∧ W.grownBy w' none :=
  (riscut_any (S.ref.up h) f t wf wt).mono fun _ _ ⟨h1, h2⟩ => ⟨by rw [h1, hr], by rw [h2]; exact h⟩
end
end Go.Proofs.Ytlogdbbaefpapaa
