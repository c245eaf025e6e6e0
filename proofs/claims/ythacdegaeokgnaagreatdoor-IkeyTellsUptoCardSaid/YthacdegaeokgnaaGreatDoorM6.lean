/-
  Several texts in one: A region that draws its order, walked in the order of the text, within a class of worlds: one operation at a time. No program is named.
  IkeyTells: what its calls answer, one form each; what is known between them.
-/
import Derived.Test.YthacdegaeokgnaaGreatDoorM1
import Derived.Deep.QuietTactic
import Derived.BigQuiet
import Derived.Test.YthacdegaeokgnaaGreatDoorM4
import Derived.Test.YthacdegaeokgnaaGreatDoorM5
import Derived.Test.YthacdegaeokgnaaGreatDoorM2
import Derived.Test.YthacdegaeokgnaaGreatDoorM3
namespace Go.Proofs.YthacdegaeokgnaaGreatDoor
section
variable {P : Program} {ops : Array Oper} {C : World → Prop} {Q : Act → Prop} {a : Act} {o : Oper} {rest : List Oper}
theorem wpQuiet_skip (hw : Region.wanted o (yielded ops a.tmps) = false) (h : wpQuiet P ops C Q rest (a.put o.dst undef)) : wpQuiet P ops C Q (o :: rest) a := by
  unfold wpQuiet
  rw [hw]
  exact h
theorem wpQuiet_take (hw : Region.wanted o (yielded ops a.tmps) = true) (v : Value) (hy : ∀ w, C w → o.quietAt P a C w v) (h : wpQuiet P ops C Q rest (a.put o.dst v)) : wpQuiet P ops C Q (o :: rest) a := by
  unfold wpQuiet
  rw [if_pos hw]
  exact ⟨v, hy, h⟩
theorem wp_region_class {id : Nat} {Q : Exit → Act → World → Prop} {a : Act} {w : World} {l : List Oper} (C : World → Prop) (hm : P.follows .mixedOrders = true) (hB : Region.lexB .any l.toArray = true) (hC : C w.drew)
    (h : wpQuiet P l.toArray C (fun a' => ∀ w', C w' → Q .normal a' w') l a) : (Code.region id l.toArray true).wp P Q a w :=
  wp_region_quiet (C := C) hm hB hC (by simpa using h)
end
open Go.RowKit
/-! ### A call within a class of worlds: all that come out of one world -/
theorem cls_call {P : Program} {f : FuncId} {args : Array Value} {W0 W : World} {R : Ending} (hW : Below W0.heap.size W0 W) (h : Calls P f args W fun e w' => e = R ∧ Below W.heap.size W w') :
    Calls P f args W fun e w' => e = R ∧ Below W0.heap.size W0 w' := h.mono fun _ _ ⟨he, hb⟩ => ⟨he, hW.trans (hb.mono hW.size)⟩
theorem below_of_eq {w w' : World} (h : w' = w) : Below w.heap.size w w' := by rw [h]; exact Below.refl _ _
theorem below_of_eq' {w w' : World} (h : w = w') : Below w.heap.size w w' := by rw [h]; exact Below.refl _ _
end Go.Proofs.YthacdegaeokgnaaGreatDoor

namespace Go.Proofs.YthacdegaeokgnaaGreatDoor
open Go.RowKit

/-! ### One form for each answer -/
def putS (k : List UInt8) (xs : List Int) (o x : Int) : ByteArray := if okV k xs o x = true then ⟨(putVL k xs o x).toArray⟩ else ⟨#[]⟩
def putE (k : List UInt8) (xs : List Int) (o x : Int) : Int := if okV k xs o x = true then 0 else 1
theorem put_form {k : List UInt8} {xs : List Int} {o x : Int} {e : Ending}
    (h : okV k xs o x = true ∧ e = .returned (.tuple #[.string ⟨(putVL k xs o x).toArray⟩, .int .i64 0]) ∨ okV k xs o x = false ∧ e = .returned (.tuple #[.string ByteArray.empty, .int .i64 1])) :
    e = .returned (.tuple #[.string (putS k xs o x), .int .i64 (putE k xs o x)]) := by
  unfold putS putE
  rcases h with ⟨h, rfl⟩ | ⟨h, rfl⟩
  · rw [if_pos h, if_pos h]
  · rw [h]; rfl
theorem kput_one (key : ByteArray) (A : Option Addr) (n c : Nat) (o x kd : Int) (nu : Nat) (it : Int) (tx : ByteArray) (xs : List Int) (w : World) (V : VerIn w key A n xs o x kd nu it tx) :
    Calls Tryz.prog 6 #[verV key A n c o x kd nu it tx] w fun e w' => e = .returned (.tuple #[.string (putS key.data.toList xs o x), .int .i64 (putE key.data.toList xs o x)]) ∧ Below w.heap.size w w' :=
  (kput_any key A n c o x kd nu it tx xs w V).mono fun _ _ ⟨h, hb⟩ => ⟨put_form h, hb⟩
theorem rput_one (key : ByteArray) (A : Option Addr) (n c : Nat) (o x kd : Int) (nu : Nat) (it : Int) (tx : ByteArray) (xs : List Int) (w : World) (V : VerIn w key A n xs o x kd nu it tx) :
    Calls Tryz.prog 7 #[verV key A n c o x kd nu it tx] w fun e w' => e = .returned (.tuple #[.string (putS key.data.toList xs o x), .int .i64 (putE key.data.toList xs o x)]) ∧ Below w.heap.size w w' :=
  (rput5_any key A n c o x kd nu it tx xs w V).mono fun _ _ ⟨h, hb⟩ => ⟨put_form h, hb⟩

/-- What is got of bytes: the version, the error. -/
def GotF (l : List UInt8) (key : ByteArray) (xs : List Int) (o x er : Int) : Prop :=
  (er = 0 ∧ OkV key.data.toList xs o x ∧ l = putVL key.data.toList xs o x) ∨ (er = 4 ∧ key = ByteArray.empty ∧ xs = [] ∧ o = 0 ∧ x = 0 ∧ ∀ (key : ByteArray) (xs : List Int) (o x : Int), OkV key.data.toList xs o x → l ≠ putVL key.data.toList xs o x)
theorem got_only {l : List UInt8} {k k' : ByteArray} {xs xs' : List Int} {o o' x x' er er' : Int} (h : GotF l k xs o x er) (h' : GotF l k' xs' o' x' er') : k = k' ∧ xs = xs' ∧ o = o' ∧ x = x' ∧ er = er' := by
  rcases h with ⟨rfl, h1, h2⟩ | ⟨rfl, rfl, rfl, rfl, rfl, h2⟩
  · rcases h' with ⟨rfl, h1', h2'⟩ | ⟨_, _, _, _, _, h2'⟩
    · obtain ⟨a, b, c, d⟩ := putVL_inj h1 h1' (h2.symm.trans h2')
      exact ⟨bytes_ext a, b, c, d, rfl⟩
    · exact absurd h2 (h2' _ _ _ _ h1)
  · rcases h' with ⟨_, h1', h2'⟩ | ⟨rfl, rfl, rfl, rfl, rfl, _⟩
    · exact absurd h2' (h2 _ _ _ _ h1')
    · exact ⟨rfl, rfl, rfl, rfl, rfl⟩
theorem got_wf {l : List UInt8} {k : ByteArray} {xs : List Int} {o x er : Int} (h : GotF l k xs o x er) : xs.length ≤ 8 ∧ ∀ z ∈ xs, (Lit.int .i64 z).wf = true := by
  rcases h with ⟨_, h1, _⟩ | ⟨_, _, rfl, _⟩
  · exact ⟨(validL_of h1.at_).1.2, fun z hz => by have := valid_mem h1.at_ z hz; exact WalkArith.wf_i64 ⟨by omega, by omega⟩⟩
  · exact ⟨by simp, by simp⟩
theorem got_form {w w' : World} {l : List UInt8} {e : Ending} (h : GetIs w w' l e) : ∃ key A c o x xs er, e = .returned (.tuple #[verV key A xs.length c o x 0 0 0 ByteArray.empty, .int .i64 er]) ∧ Nums w' w.heap.size 3 (.slice A xs.length c) xs ∧ GotF l key xs o x er := by
  rcases h with ⟨key, A, c, o, x, xs, h1, h2, rfl, hN⟩ | ⟨h1, rfl⟩
  · exact ⟨key, A, c, o, x, xs, 0, rfl, hN, Or.inl ⟨rfl, h1, h2⟩⟩
  · exact ⟨ByteArray.empty, none, 0, 0, 0, [], 4, rfl, World.ownsRow_nil _ _ _ _, Or.inr ⟨rfl, rfl, rfl, rfl, rfl, h1⟩⟩
theorem kget_one (s : ByteArray) (w : World) (hs : s.size ≤ 140737488351232) :
    Calls Tryz.prog 8 #[.string s] w fun e w' => (∃ key A c o x xs er, e = .returned (.tuple #[verV key A xs.length c o x 0 0 0 ByteArray.empty, .int .i64 er]) ∧ Nums w' w.heap.size 3 (.slice A xs.length c) xs ∧ GotF s.data.toList key xs o x er) ∧ Below w.heap.size w w' :=
  (kget_any s w hs).mono fun _ _ ⟨h, hb⟩ => ⟨got_form h, hb⟩
theorem rget_one (s : ByteArray) (w : World) (hs : s.size ≤ 100000) {key : ByteArray} {xs : List Int} {o x er : Int} (G : GotF s.data.toList key xs o x er) :
    Calls Tryz.prog 9 #[.string s] w fun e w' => (∃ A c, e = .returned (.tuple #[verV key A xs.length c o x 0 0 0 ByteArray.empty, .int .i64 er]) ∧ Nums w' w.heap.size 3 (.slice A xs.length c) xs) ∧ Below w.heap.size w w' :=
  (rget5_any s w hs).mono fun _ _ ⟨h, hb⟩ => ⟨by
    obtain ⟨key', A, c, o', x', xs', er', he, hN, G'⟩ := got_form h
    obtain ⟨rfl, rfl, rfl, rfl, rfl⟩ := got_only G G'
    exact ⟨A, c, he, hN⟩, hb⟩
theorem kkey_one (s : ByteArray) (w : World) (hs : s.size ≤ 140737488351232) {key : ByteArray} {xs : List Int} {o x er : Int} (G : GotF s.data.toList key xs o x er) :
    Calls Tryz.prog 10 #[.string s] w fun e w' => e = .returned (.tuple #[.string key, .int .i64 er]) ∧ Below w.heap.size w w' :=
  (kkey_any s w hs).mono fun _ _ ⟨h, hb⟩ => ⟨by
    rcases h with ⟨key', xs', o', x', h1, h2, rfl⟩ | ⟨h1, rfl⟩
    · obtain ⟨rfl, rfl, rfl, rfl, rfl⟩ := got_only G (Or.inl ⟨rfl, h1, h2⟩)
      rfl
    · obtain ⟨rfl, rfl, rfl, rfl, rfl⟩ := got_only G (Or.inr ⟨rfl, rfl, rfl, rfl, rfl, h1⟩)
      rfl, hb⟩

/-! ### Rows as they are read, and kept -/
theorem mlent_shape {w : World} {B : Nat} {v : Value} {zs : List Int} (h : LentV w B v zs) : ∃ a c, v = .slice a zs.length c := own_slice h.nums
theorem mnums_ints {w : World} {B n c : Nat} {A : Option Addr} {zs : List Int} (h : Nums w B 3 (.slice A n c) zs) (hwf : ∀ z ∈ zs, (Lit.int .i64 z).wf = true) : IntsIn w A n zs := by
  obtain ⟨A', c', e, I, _⟩ := h.ints hwf
  injection e with e1 e2 _
  subst e1
  subst e2
  exact I
theorem mlent_set {w : World} {B : Nat} {v : Value} {zs : List Int} (h : LentV w B v zs) {q : Nat} (hq : q < B) (j : Nat) (u : Value) : LentV (w.setCell ⟨q, j, none⟩ u) B v zs := by
  obtain ⟨g, c, rfl, hc, ho⟩ := h
  exact ⟨g, c, rfl, hc, ownsRow_setCell_below ho hq u⟩
theorem mkept_now {w : World} {B bk S : Nat} {Z : List (List Int)} (h : Kept w B bk Z S) : Kept w B bk Z w.heap.size := by
  obtain ⟨v1, v2, L, C, hV, hL, hC, hR, hN, hW, hS⟩ := h
  exact ⟨v1, v2, L, C, hV, hL, hC, hR, hN, hW, fun i hi g hg => ((hR.each i hi).lt_ hg).2⟩
theorem mkept_start (w : World) : Kept (w.alloc (.cells (bookV (.slice none 0 0) (.slice none 0 0)) 46)) w.heap.size w.heap.size [] (w.alloc (.cells (bookV (.slice none 0 0) (.slice none 0 0)) 46)).heap.size :=
  ⟨.slice none 0 0, .slice none 0 0, [], [], ⟨Nat.le_refl _, heap_alloc_new w _, World.ownsRow_nil _ _ _ _, World.ownsRow_nil _ _ _ _, fun g hg => by simp [Value.ownBlock] at hg⟩, rfl, rfl, ⟨fun i hi => absurd hi (by simp), fun i j hi => absurd hi (by simp)⟩, fun i hi => absurd hi (by simp), fun i hi => absurd hi (by simp), fun i hi => absurd hi (by simp)⟩
theorem mkept_start2 (w : World) (ob : Obj) : Kept ((w.alloc ob).alloc (.cells (bookV (.slice none 0 0) (.slice none 0 0)) 46)) (w.heap.size + 1) (w.heap.size + 1) [] (w.heap.size + 2) := by
  have h := mkept_start (w.alloc ob)
  have e1 : (w.alloc ob).heap.size = w.heap.size + 1 := by simp
  have e2 : ((w.alloc ob).alloc (.cells (bookV (.slice none 0 0) (.slice none 0 0)) 46)).heap.size = w.heap.size + 2 := by simp
  rw [e2, e1] at h
  exact h
theorem mstays_self (B : Nat) (v : Value) (zs : List Int) (A2 : Option Addr) (n2 c2 : Nat) (w : World) (H1 : LentV w B v zs) (hwf : ∀ z ∈ zs, (Lit.int .i64 z).wf = true) (hn : zs.length ≤ 100000) (I2 : IntsIn w A2 n2 zs) :
    Calls Tryz.prog 18 #[v, .slice A2 n2 c2] w fun e w' => e = .returned (.bool true) ∧ Below w.heap.size w w' := by
  have := stays_any B v zs A2 n2 c2 zs w H1 hwf hn I2
  rw [decide_eq_true (rfl : zs = zs)] at this
  refine this.mono ?_
  rintro e w' ⟨he, q, rfl⟩
  exact ⟨he, below_drewN (Below.refl _ _) q⟩

end Go.Proofs.YthacdegaeokgnaaGreatDoor
