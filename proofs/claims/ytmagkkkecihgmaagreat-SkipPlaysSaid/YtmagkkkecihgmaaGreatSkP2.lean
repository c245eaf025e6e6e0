/-
  SkipPlays, part 2: both lists, the book and the step at hand in one; what each call makes of them.
-/
import Derived.Test.YtmagkkkecihgmaaGreatSkP1
import Derived.Test.YtmagkkkecihgmaaGreatBkKeys4
import Derived.Test.YtmagkkkecihgmaaGreatSp13
namespace Go.Proofs.YtmagkkkecihgmaaGreat
open Go.RowKit

/-- Both lists, the book of what was told, and the step at hand. -/
structure St10 (w : World) (p q bk b : Nat) (x y : S10) (cs : Array Value) (W : World) : Prop where
  sk : ∃ Z, SkZ w.heap.size p W x Z
  ref : SkR w.heap.size q W y
  book : ∃ bcs ZK, Blk W bk 53 bcs ∧ KStKeys W w.heap.size bcs ZK W.heap.size ∧ ∀ j, j < 30 → j ≠ 6 → j ≠ 7 → bcs[j]? = some (.slice none 0 0)
  hbk : w.heap.size ≤ bk
  op : cs = #[] ∨ Blk W b 55 cs
  below : Below w.heap.size w W
section
theorem op_tn {cs : Array Value} {b B : Nat} {T : Obj → Bool} {W W' : World} (h : cs = #[] ∨ Blk W b 55 cs) (g : Tn B T W W') (hT : ∀ fr, T (.cells cs 55 fr) = false) : cs = #[] ∨ Blk W' b 55 cs :=
  h.imp id fun h => g.blk h (hT _)
variable {w : World} {p q bk b : Nat} {x y : S10} {cs : Array Value} {W W' : World}
theorem St10.size (S : St10 w p q bk b x y cs W) : w.heap.size ≤ W.heap.size := S.below.size
theorem St10.keepBook (S : St10 w p q bk b x y cs W) {T : Obj → Bool} (g : Tn w.heap.size T W W') (h1 : ∀ cs fr, T (.cells cs 53 fr) = false) (h2 : ∀ cs fr, T (.cells cs 78 fr) = false) (h3 : ∀ cs fr, T (.cells cs 60 fr) = false) :
    ∃ bcs ZK, Blk W' bk 53 bcs ∧ KStKeys W' w.heap.size bcs ZK W'.heap.size ∧ ∀ j, j < 30 → j ≠ 6 → j ≠ 7 → bcs[j]? = some (.slice none 0 0) := by
  obtain ⟨bcs, ZK, k1, k2, k3⟩ := S.book
  exact ⟨bcs, ZK, g.blk k1 (h1 _ _), (k2.tn g h2 h3).up g.size, k3⟩
theorem St10.up (S : St10 w p q bk b x y cs W) (h : W.grownBy W' none) : St10 w p q bk b x y cs W' := by
  have g : Tn w.heap.size (fun _ => false) W W' := Tn.of_grown h
  obtain ⟨Z, hz⟩ := S.sk
  exact ⟨⟨Z, hz.up h⟩, S.ref.up h, S.keepBook g (fun _ _ => rfl) (fun _ _ => rfl) (fun _ _ => rfl), S.hbk, op_tn S.op g (fun _ => rfl), S.below.trans (g.below S.below.size)⟩
theorem St10.drew (S : St10 w p q bk b x y cs W) : St10 w p q bk b x y cs W.drew := S.up (only_drew (grefl W none))
theorem St10.skTo {x' : S10} {Z : List Z10} (S : St10 w p q bk b x y cs W) (h : ∃ Z', SkZ w.heap.size p W' x' Z') (hz : SkZ w.heap.size p W x Z) (t : Tu (Foot p Z) W W') : St10 w p q bk b x' y cs W' := by
  have g := hz.put_tn t
  exact ⟨h, S.ref.tn g (fun t cs fr ht => by rcases ht with rfl | rfl <;> rfl), S.keepBook g (fun _ _ => rfl) (fun _ _ => rfl) (fun _ _ => rfl), S.hbk, op_tn S.op g (fun _ => rfl), S.below.trans (g.below S.below.size)⟩
theorem St10.refTo {y' : S10} (S : St10 w p q bk b x y cs W) (h : SkR w.heap.size q W' y') (g : Tn w.heap.size (cellsT 29) W W') : St10 w p q bk b x y' cs W' := by
  obtain ⟨Z, hz⟩ := S.sk
  exact ⟨⟨Z, hz.tn g (fun t cs fr ht => by rcases ht with rfl | rfl <;> rfl)⟩, h, S.keepBook g (fun _ _ => rfl) (fun _ _ => rfl) (fun _ _ => rfl), S.hbk, op_tn S.op g (fun _ => rfl), S.below.trans (g.below S.below.size)⟩
theorem St10.cells4 {a0 a1 a2 a3 : Value} (S : St10 w p q bk b x y #[a0, a1, a2, a3] W) : W.cell? ⟨b, 0, none⟩ = some a0 ∧ W.cell? ⟨b, 1, none⟩ = some a1 ∧ W.cell? ⟨b, 2, none⟩ = some a2 ∧ W.cell? ⟨b, 3, none⟩ = some a3 := by
  rcases S.op with h | h
  · simp at h
  · exact ⟨h.cell 0, h.cell 1, h.cell 2, h.cell 3⟩
/-- A step of its own. -/
theorem St10.noOp (S : St10 w p q bk b x y cs W) : St10 w p q bk 0 x y #[] W := ⟨S.sk, S.ref, S.book, S.hbk, Or.inl rfl, S.below⟩
variable (hx : x.L.length ≤ 100000) (hy : y.L.length ≤ 100000)
include hx in
theorem st_skput (S : St10 w p q bk b x y cs W) (key value : ByteArray) (ht : Int) :
    Calls Tryz.prog 6 #[.pointer (some ⟨p, 0, none⟩), .string key, .string value, .int .i64 ht] W fun e W' => e = .returned (.int .i64 (putL x key value ht).1) ∧ St10 w p q bk b (putL x key value ht).2 y cs W' := by
  obtain ⟨Z, hz⟩ := S.sk
  exact (skput_any hz key value ht S.below.size hx).mono fun e W' ⟨h1, Z', h2, h3, _⟩ => ⟨h1, S.skTo ⟨Z', h2⟩ hz h3⟩
include hy in
theorem st_rput (S : St10 w p q bk b x y cs W) (key value : ByteArray) (ht : Int) (hk : key.size ≤ 140737488351232) :
    Calls Tryz.prog 7 #[.pointer (some ⟨q, 0, none⟩), .string key, .string value, .int .i64 ht] W fun e W' => e = .returned (.int .i64 (putL y key value ht).1) ∧ St10 w p q bk b x (putL y key value ht).2 cs W' :=
  (rput_any S.ref key value ht S.below.size hy hk).mono fun _e _W' ⟨h1, h2, h3⟩ => ⟨h1, S.refTo h2 h3⟩
include hx in
theorem st_skget (S : St10 w p q bk b x y cs W) (key : ByteArray) :
    Calls Tryz.prog 8 #[.pointer (some ⟨p, 0, none⟩), .string key] W fun e W' => e = .returned (.tuple #[.string (getL x.L key).1, .int .i64 (getL x.L key).2]) ∧ St10 w p q bk b x y cs W' := by
  obtain ⟨Z, hz⟩ := S.sk
  exact (skget_any hz key hx).mono fun e W' h => ⟨h.1, S.up h.2⟩
include hx in
theorem st_sklast (S : St10 w p q bk b x y cs W) (key : ByteArray) :
    Calls Tryz.prog 14 #[.pointer (some ⟨p, 0, none⟩), .string key] W fun e W' => e = .returned (.tuple #[.string (lastL x.L key).1, .string (lastL x.L key).2.1, .bool (lastL x.L key).2.2]) ∧ St10 w p q bk b x y cs W' := by
  obtain ⟨Z, hz⟩ := S.sk
  exact (sklast_any hz key hx).mono fun e W' h => ⟨h.1, S.up h.2⟩
include hx in
theorem st_sksteps (S : St10 w p q bk b x y cs W) (key : ByteArray) :
    Calls Tryz.prog 17 #[.pointer (some ⟨p, 0, none⟩), .string key] W fun e W' => e = .returned (.int .i64 (stepsL x.L key)) ∧ St10 w p q bk b x y cs W' := by
  obtain ⟨Z, hz⟩ := S.sk
  exact (sksteps_any hz key hx).mono fun e W' h => ⟨h.1, S.up h.2⟩
include hy in
theorem st_rsteps (S : St10 w p q bk b x y cs W) (key : ByteArray) (hk : key.size ≤ 140737488351232) :
    Calls Tryz.prog 18 #[.pointer (some ⟨q, 0, none⟩), .string key] W fun e W' => e = .returned (.int .i64 (stepsL y.L key)) ∧ St10 w p q bk b x y cs W' :=
  (rsteps10 S.ref key hk hy).mono fun _e _W' h => ⟨h.1, S.up h.2⟩
include hx in
theorem st_skfrom (S : St10 w p q bk b x y cs W) (key : ByteArray) (most : Int) :
    Calls Tryz.prog 10 #[.pointer (some ⟨p, 0, none⟩), .string key, .int .i64 most] W fun e W' => ∃ v, e = .returned v ∧ Own elKeys W' W.heap.size 78 v (fromL x.L key most) ∧ W.grownBy W' none := by
  obtain ⟨Z, hz⟩ := S.sk
  exact skfrom_any hz key most hx
include hy in
theorem st_rfrom (S : St10 w p q bk b x y cs W) (key : ByteArray) (most : Int) (hk : key.size ≤ 140737488351232) :
    Calls Tryz.prog 13 #[.pointer (some ⟨q, 0, none⟩), .string key, .int .i64 most] W fun e W' => ∃ v, e = .returned v ∧ Own elKeys W' W.heap.size 78 v (fromL y.L key most) ∧ St10 w p q bk b x y cs W' ∧ W.grownBy W' none :=
  (rfrom10 S.ref key most hk hy).mono fun _e _W' ⟨v, h1, h2, h3⟩ => ⟨v, h1, h2, S.up h3, h3⟩
theorem st_rget (S : St10 w p q bk b x y cs W) (key : ByteArray) (hk : key.size ≤ 140737488351232) :
    Calls Tryz.prog 9 #[.pointer (some ⟨q, 0, none⟩), .string key] W fun e W' => e = .returned (.tuple #[.string (getL y.L key).1, .int .i64 (getL y.L key).2]) ∧ St10 w p q bk b x y cs W' :=
  (rget10 S.ref key hk).mono fun e W' ⟨h1, j, h2⟩ => ⟨h1, by rw [h2]; exact S.up (only_drewN (grefl W none) j)⟩
theorem st_rbefore (S : St10 w p q bk b x y cs W) (key : ByteArray) (hk : key.size ≤ 140737488351232) :
    Calls Tryz.prog 15 #[.pointer (some ⟨q, 0, none⟩), .string key] W fun e W' => e = .returned (.tuple #[.string (lastL y.L key).1, .string (lastL y.L key).2.1, .bool (lastL y.L key).2.2]) ∧ St10 w p q bk b x y cs W' :=
  (rbefore10 S.ref key hk).mono fun e W' ⟨h1, j, h2⟩ => ⟨h1, by rw [h2]; exact S.up (only_drewN (grefl W none) j)⟩
include hy in
theorem st_rbytes (S : St10 w p q bk b x y cs W) :
    Calls Tryz.prog 26 #[.pointer (some ⟨q, 0, none⟩)] W fun e W' => e = .returned (.int .i64 (bytesL y.L)) ∧ St10 w p q bk b x y cs W' :=
  (rbytes10 S.ref (by omega)).mono fun e W' ⟨h1, j, h2⟩ => ⟨h1, by rw [h2]; exact S.up (only_drewN (grefl W none) j)⟩
include hy in
theorem st_rlanes (S : St10 w p q bk b x y cs W) :
    Calls Tryz.prog 24 #[.pointer (some ⟨q, 0, none⟩)] W fun e W' => ∃ v, e = .returned v ∧ Own elInts W' W.heap.size 3 v (lanesTo y.L (hiL y.L)) ∧ W.grownBy W' none := rlanes10 S.ref hy
theorem st_sklanes (S : St10 w p q bk b x y cs W) :
    Calls Tryz.prog 21 #[.pointer (some ⟨p, 0, none⟩)] W fun e W' => ∃ v, e = .returned v ∧ Own elInts W' W.heap.size 3 v (lanesTo x.L (hiL x.L)) ∧ W.grownBy W' none := by
  obtain ⟨Z, hz⟩ := S.sk
  exact sklanes_any hz
theorem st_skcount (S : St10 w p q bk b x y cs W) :
    Calls Tryz.prog 19 #[.pointer (some ⟨p, 0, none⟩)] W fun e W' => e = .returned (.int .i64 (x.L.length : Int)) ∧ W' = W := by
  obtain ⟨Z, hz⟩ := S.sk
  exact skcount_any hz
theorem st_skfrozen (S : St10 w p q bk b x y cs W) :
    Calls Tryz.prog 20 #[.pointer (some ⟨p, 0, none⟩)] W fun e W' => e = .returned (.bool x.frozen) ∧ W' = W := by
  obtain ⟨Z, hz⟩ := S.sk
  exact skfrozen_any hz
theorem st_skbytes (S : St10 w p q bk b x y cs W) :
    Calls Tryz.prog 25 #[.pointer (some ⟨p, 0, none⟩)] W fun e W' => e = .returned (.int .i64 (bytesL x.L : Int)) ∧ W' = W := by
  obtain ⟨Z, hz⟩ := S.sk
  exact skbytes_any hz
theorem st_skfreeze (S : St10 w p q bk b x y cs W) :
    Calls Tryz.prog 16 #[.pointer (some ⟨p, 0, none⟩)] W fun e W' => e = .returned (.tuple #[]) ∧ St10 w p q bk b { x with frozen := true } y cs W' := by
  obtain ⟨Z, hz⟩ := S.sk
  exact (skfreeze_any hz).mono fun e W' ⟨h1, h2, h3⟩ => ⟨h1, S.skTo ⟨Z, h2⟩ hz h3⟩
/-- 'r.Frozen = true'. -/
theorem St10.froz (S : St10 w p q bk b x y cs W) : St10 w p q bk b x { y with frozen := true } cs (W.setCell ⟨q, 1, none⟩ (.bool true)) := by
  obtain ⟨sl, h1, h2, h3, h4⟩ := S.ref
  have gs : W.grownBy (W.setCell ⟨q, 1, none⟩ (.bool true)) (some q) := only_setCell (grefl W (some q)) (Or.inl rfl) _
  refine S.refTo ⟨sl, h1.set_ 1 _, World.ownsRow.kept h2 gs (Or.inr (own_ne_k h2 h1 (by decide))), h3, h4⟩ ((Tn.refl _ _ W).setCell (p := ⟨q, 1, none⟩) (Or.inr ⟨h3, _, h1, by simp [cellsT]⟩) _)
/-- What From told is kept in the book. -/
theorem st_keys (S : St10 w p q bk b x y cs W) (g : W.grownBy W' none) {A : Option Addr} {n c : Nat} {L : List (ByteArray × ByteArray)} (ho : Own elKeys W' W.heap.size 78 (.slice A n c) L) (hL : L.length ≤ 100000 ∧ ∀ z ∈ L, okKeys z) :
    Calls Tryz.prog 11 #[.pointer (some ⟨bk, 0, none⟩), .slice A n c] W' fun e W2 => e = .returned (.tuple #[]) ∧ St10 w p q bk b x y cs W2 ∧ Own elKeys W2 W.heap.size 78 (.slice A n c) L ∧ Tn w.heap.size (twoT 60 53) W' W2 := by
  obtain ⟨bcs, ZK, k1, k2, k3⟩ := S.book
  have S' := S.up g
  have g0 : Tn w.heap.size (fun _ => false) W W' := Tn.of_grown g
  refine (keepKeys_any w.heap.size bk W.heap.size W.heap.size bcs ZK A n c L W' (g0.blk k1 rfl) (k2.tn g0 (fun _ _ => rfl) (fun _ _ => rfl)) ho (Nat.le_refl _) S.size S.hbk S'.size g.size hL).mono ?_
  rintro e W2 ⟨h1, bcs', Z', h2, h3, h4, h5, _⟩
  obtain ⟨Z, hz⟩ := S'.sk
  refine ⟨h1, ⟨⟨Z, hz.tn h5 (fun t cs fr ht => by rcases ht with rfl | rfl <;> rfl)⟩, S'.ref.tn h5 (fun t cs fr ht => by rcases ht with rfl | rfl <;> rfl), ⟨bcs', Z', h2, h3.up h5.size, fun j hj h6 h7 => (h4 j h6 h7).trans (k3 j hj h6 h7)⟩, S.hbk, op_tn S'.op h5 (fun _ => rfl), S'.below.trans (h5.below S'.size)⟩, ho.tn h5 (fun _ _ => rfl), h5⟩
end
end Go.Proofs.YtmagkkkecihgmaaGreat
