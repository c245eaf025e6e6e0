/-
  SkipPlays, part 3: the calls as its walk wants them; the book of what Lanes told; the start and the end.
-/
import Derived.Test.YtmagkkkecihgmaaGreatSkP2
import Derived.Test.YtmagkkkecihgmaaGreatBkApartIntsKeys
namespace Go.Proofs.YtmagkkkecihgmaaGreat
open Go.RowKit

theorem putP_len (s : S10) (key v : ByteArray) (t : Int) : (putL s key v t).2.L.length ≤ s.L.length + 1 := by
  unfold putL
  split
  · exact Nat.le_succ _
  · split
    · exact Nat.le_succ _
    · split
      · exact Nat.le_succ _
      · show (insL _ _ _).length ≤ _
        have := placeL_le s.L key
        simp [insL]
        omega
theorem fromP_len (L : List P10) (key : ByteArray) (most : Int) : (fromL L key most).length ≤ L.length := by
  have : (pairsOf L (placeL L key)).length ≤ L.length := by rw [pairsOf_length]; omega
  unfold fromL
  split
  · exact this
  · rw [List.length_take]; omega
theorem fromP_ok {L : List P10} (h : ∀ m ∈ L, m.1.size ≤ 65536 ∧ m.2.1.size ≤ 65536 ∧ 1 ≤ m.2.2 ∧ m.2.2 ≤ 12) (key : ByteArray) (most : Int) : ∀ z ∈ fromL L key most, okKeys z := by
  have hp : ∀ z ∈ pairsOf L (placeL L key), okKeys z := by
    intro z hz
    obtain ⟨m, hm, rfl⟩ := List.mem_map.1 hz
    obtain ⟨h1, h2, _⟩ := h m (List.mem_of_mem_drop hm)
    exact ⟨by dsimp only; omega, by dsimp only; omega⟩
  unfold fromL
  split
  · exact hp
  · exact fun z hz => hp z (List.mem_of_mem_take hz)
section
variable {w : World} {p q bk b : Nat} {x y : S10} {cs : Array Value} {W W' : World}
theorem St10.okF (S : St10 w p q bk b x y cs W) (hy : y.L.length ≤ 100000) (key : ByteArray) (most : Int) : (fromL y.L key most).length ≤ 100000 ∧ ∀ z ∈ fromL y.L key most, okKeys z := by
  obtain ⟨_, _, _, _, h⟩ := S.ref
  exact ⟨Nat.le_trans (fromP_len _ _ _) hy, fromP_ok h _ _⟩
theorem lanes_ok (L : List P10) : (lanesTo L (hiL L)).length ≤ 100000 ∧ ∀ z ∈ lanesTo L (hiL L), okInts z :=
  ⟨by rw [lanesTo_length]; exact Nat.le_trans (hiL_le L) (by decide), fun _ _ => trivial⟩
/-- A step that came in. -/
theorem St10.withOp (S : St10 w p q bk b x y cs W) (cs' : Array Value) : St10 w p q bk W.heap.size x y cs' (W.alloc (.cells cs' 55)) := by
  have S' := S.up (World.grownBy_alloc W (.cells cs' 55) none)
  exact ⟨S'.sk, S'.ref, S'.book, S'.hbk, Or.inr (Blk.new _ _ _), S'.below⟩
/-- A book that keeps nothing. -/
abbrev bookNil : Array Value := #[.slice none 0 0, .slice none 0 0, .slice none 0 0, .slice none 0 0, .slice none 0 0, .slice none 0 0, .slice none 0 0, .slice none 0 0, .slice none 0 0, .slice none 0 0, .slice none 0 0, .slice none 0 0, .slice none 0 0, .slice none 0 0, .slice none 0 0, .slice none 0 0, .slice none 0 0, .slice none 0 0, .slice none 0 0, .slice none 0 0, .slice none 0 0, .slice none 0 0, .slice none 0 0, .slice none 0 0, .slice none 0 0, .slice none 0 0, .slice none 0 0, .slice none 0 0, .slice none 0 0, .slice none 0 0]
/-- The start: two lists without pairs, and a book that keeps nothing. -/
theorem st_start {Z : List Z10} (h1 : SkZ w.heap.size p W x Z) (h2 : SkR w.heap.size q W y) (hb : Below w.heap.size w W) :
    St10 w p q W.heap.size 0 x y #[] (W.alloc (.cells bookNil 53)) := by
  have g := World.grownBy_alloc W (.cells bookNil 53) none
  have g0 : Tn w.heap.size (fun _ => false) W (W.alloc (.cells bookNil 53)) := Tn.of_grown g
  have hn : ∀ j, j < 30 → (bookNil)[j]? = some (.slice none 0 0) := by
    intro j hj
    have e : bookNil = Array.replicate 30 (Value.slice none 0 0) := by rfl
    rw [e]
    simp [hj]
  exact ⟨⟨Z, h1.up g⟩, h2.up g, ⟨_, [], Blk.new _ _ _, KSt.nil (hn 6 (by decide)) (hn 7 (by decide)), fun j hj _ _ => hn j hj⟩, hb.size, Or.inl rfl, hb.trans (g0.below hb.size)⟩
theorem skr_new {q B : Nat} (h : Blk W q 29 #[.slice none 0 0, .bool false]) (hB : B ≤ q) : SkR B q W ⟨[], false⟩ :=
  ⟨_, h, World.ownsRow_nil _ _ _ _, hB, fun m hm => by cases hm⟩
theorem st_put1 (S : St10 w p q bk b x y cs W) (hx : x.L.length ≤ 100000) {key value : ByteArray} {ht er : Int} {x4 : S10} (e1 : putL x key value ht = (er, x4)) :
    Calls Tryz.prog 6 #[.pointer (some ⟨p, 0, none⟩), .string key, .string value, .int .i64 ht] W fun e W' => e = .returned (.int .i64 er) ∧ St10 w p q bk b x4 y cs W' := by
  have := st_skput hx S key value ht
  rw [e1] at this
  exact this
theorem st_put2 (S : St10 w p q bk b x y cs W) (hy : y.L.length ≤ 100000) {key value : ByteArray} {ht er : Int} {x4 : S10} (e1 : putL y key value ht = (er, x4)) (hk : key.size ≤ 140737488351232) :
    Calls Tryz.prog 7 #[.pointer (some ⟨q, 0, none⟩), .string key, .string value, .int .i64 ht] W fun e W' => e = .returned (.int .i64 er) ∧ St10 w p q bk b x x4 cs W' := by
  have := st_rput hy S key value ht hk
  rw [e1] at this
  exact this
theorem st_get1 (S : St10 w p q bk b x y cs W) (hx : x.L.length ≤ 100000) {key ga : ByteArray} {ge : Int} (e1 : getL x.L key = (ga, ge)) :
    Calls Tryz.prog 8 #[.pointer (some ⟨p, 0, none⟩), .string key] W fun e W' => e = .returned (.tuple #[.string ga, .int .i64 ge]) ∧ St10 w p q bk b x y cs W' := by
  have := st_skget hx S key
  rw [e1] at this
  exact this
theorem st_get2 (S : St10 w p q bk b x y cs W) {key ga : ByteArray} {ge : Int} (e1 : getL y.L key = (ga, ge)) (hk : key.size ≤ 140737488351232) :
    Calls Tryz.prog 9 #[.pointer (some ⟨q, 0, none⟩), .string key] W fun e W' => e = .returned (.tuple #[.string ga, .int .i64 ge]) ∧ St10 w p q bk b x y cs W' := by
  have := st_rget S key hk
  rw [e1] at this
  exact this
theorem st_last1 (S : St10 w p q bk b x y cs W) (hx : x.L.length ≤ 100000) {key ga gb : ByteArray} {ge : Bool} (e1 : lastL x.L key = (ga, gb, ge)) :
    Calls Tryz.prog 14 #[.pointer (some ⟨p, 0, none⟩), .string key] W fun e W' => e = .returned (.tuple #[.string ga, .string gb, .bool ge]) ∧ St10 w p q bk b x y cs W' := by
  have := st_sklast hx S key
  rw [e1] at this
  exact this
theorem st_last2 (S : St10 w p q bk b x y cs W) {key ga gb : ByteArray} {ge : Bool} (e1 : lastL y.L key = (ga, gb, ge)) (hk : key.size ≤ 140737488351232) :
    Calls Tryz.prog 15 #[.pointer (some ⟨q, 0, none⟩), .string key] W fun e W' => e = .returned (.tuple #[.string ga, .string gb, .bool ge]) ∧ St10 w p q bk b x y cs W' := by
  have := st_rbefore S key hk
  rw [e1] at this
  exact this
theorem st_steps1 (S : St10 w p q bk b x y cs W) (hx : x.L.length ≤ 100000) {key : ByteArray} {z : Int} (e1 : stepsL x.L key = z) :
    Calls Tryz.prog 17 #[.pointer (some ⟨p, 0, none⟩), .string key] W fun e W' => e = .returned (.int .i64 z) ∧ St10 w p q bk b x y cs W' := by
  have := st_sksteps hx S key
  rw [e1] at this
  exact this
theorem st_steps2 (S : St10 w p q bk b x y cs W) (hy : y.L.length ≤ 100000) {key : ByteArray} {z : Int} (e1 : stepsL y.L key = z) (hk : key.size ≤ 140737488351232) :
    Calls Tryz.prog 18 #[.pointer (some ⟨q, 0, none⟩), .string key] W fun e W' => e = .returned (.int .i64 z) ∧ St10 w p q bk b x y cs W' := by
  have := st_rsteps hy S key hk
  rw [e1] at this
  exact this
/-- From of both, and what the book keeps, each with its list written out. -/
theorem st_from1 (S : St10 w p q bk b x y cs W) (hx : x.L.length ≤ 100000) {key : ByteArray} {most : Int} {L : List (ByteArray × ByteArray)} (e1 : fromL x.L key most = L) :
    Calls Tryz.prog 10 #[.pointer (some ⟨p, 0, none⟩), .string key, .int .i64 most] W fun e W' => ∃ A n c, e = .returned (.slice A n c) ∧ Own elKeys W' W.heap.size 78 (.slice A n c) L ∧ W.grownBy W' none := by
  refine (st_skfrom hx S key most).mono ?_
  rintro e W' ⟨v, rfl, h1, h2⟩
  rw [e1] at h1
  obtain ⟨A, c, rfl⟩ := h1.slice
  exact ⟨A, _, c, rfl, h1, h2⟩
theorem st_from2 (S : St10 w p q bk b x y cs W) (hy : y.L.length ≤ 100000) {key : ByteArray} {most : Int} {L : List (ByteArray × ByteArray)} (e1 : fromL y.L key most = L) (hk : key.size ≤ 140737488351232) :
    Calls Tryz.prog 13 #[.pointer (some ⟨q, 0, none⟩), .string key, .int .i64 most] W fun e W' => ∃ A n c, e = .returned (.slice A n c) ∧ Own elKeys W' W.heap.size 78 (.slice A n c) L ∧ St10 w p q bk b x y cs W' ∧ W.grownBy W' none := by
  refine (st_rfrom hy S key most hk).mono ?_
  rintro e W' ⟨v, rfl, h1, h2⟩
  rw [e1] at h1
  obtain ⟨A, c, rfl⟩ := h1.slice
  exact ⟨A, _, c, rfl, h1, h2⟩
theorem st_same (S : St10 w p q bk b x y cs W) {A1 A2 : Option Addr} {n1 n2 c1 c2 B1 B2 : Nat} {L : List (ByteArray × ByteArray)} (h1 : Own elKeys W B1 78 (.slice A1 n1 c1) L) (h2 : Own elKeys W B2 78 (.slice A2 n2 c2) L) (hL : L.length ≤ 100000 ∧ ∀ z ∈ L, okKeys z) :
    Calls Tryz.prog 12 #[.slice A1 n1 c1, .slice A2 n2 c2] W fun e W' => e = .returned (.bool true) ∧ St10 w p q bk b x y cs W' :=
  (sameKeys_any A1 A2 n1 n2 c1 c2 B1 B2 L W h1 h2 (Nat.le_trans hL.1 (by decide)) hL.2).mono fun e W' ⟨h1, j, h2⟩ => ⟨h1, by rw [h2]; exact S.up (only_drewN (grefl W none) j)⟩
/-- In every world that grew out of this one. -/
theorem in_count (S : St10 w p q bk b x y cs W) {V : World} (h : W.grownBy V none) : Calls Tryz.prog 19 #[.pointer (some ⟨p, 0, none⟩)] V fun e w' => e = .returned (.int .i64 (x.L.length : Int)) ∧ W.grownBy w' none :=
  (st_skcount (S.up h)).mono fun _ _ ⟨h1, h2⟩ => ⟨h1, by rw [h2]; exact h⟩
theorem in_frozen (S : St10 w p q bk b x y cs W) {V : World} (h : W.grownBy V none) : Calls Tryz.prog 20 #[.pointer (some ⟨p, 0, none⟩)] V fun e w' => e = .returned (.bool x.frozen) ∧ W.grownBy w' none :=
  (st_skfrozen (S.up h)).mono fun _ _ ⟨h1, h2⟩ => ⟨h1, by rw [h2]; exact h⟩

/-- Behind the loop: both lists, and the book that keeps what Lanes told, too. -/
structure Fin10 (w : World) (p q bk : Nat) (x y : S10) (W : World) : Prop where
  sk : ∃ Z, SkZ w.heap.size p W x Z
  ref : SkR w.heap.size q W y
  book : ∃ bcs ZI ZK, Blk W bk 53 bcs ∧ KStInts W w.heap.size bcs ZI W.heap.size ∧ KStKeys W w.heap.size bcs ZK W.heap.size ∧ ∀ j, j < 30 → j ≠ 2 → j ≠ 3 → j ≠ 6 → j ≠ 7 → bcs[j]? = some (.slice none 0 0)
  below : Below w.heap.size w W
theorem Fin10.up (F : Fin10 w p q bk x y W) (h : W.grownBy W' none) : Fin10 w p q bk x y W' := by
  have g : Tn w.heap.size (fun _ => false) W W' := Tn.of_grown h
  obtain ⟨Z, hz⟩ := F.sk
  obtain ⟨bcs, ZI, ZK, k1, k2, k3, k4⟩ := F.book
  exact ⟨⟨Z, hz.up h⟩, F.ref.up h, ⟨bcs, ZI, ZK, g.blk k1 rfl, (k2.tn g (fun _ _ => rfl) (fun _ _ => rfl)).up h.size, (k3.tn g (fun _ _ => rfl) (fun _ _ => rfl)).up h.size, k4⟩, F.below.trans (g.below F.below.size)⟩
theorem st_ints (S : St10 w p q bk b x y cs W) {A : Option Addr} {n c lo : Nat} {L : List Int} (ho : Own elInts W lo 3 (.slice A n c) L) (hlo : w.heap.size ≤ lo) (hL : L.length ≤ 100000 ∧ ∀ z ∈ L, okInts z) (hlo2 : lo ≤ W.heap.size) :
    Calls Tryz.prog 22 #[.pointer (some ⟨bk, 0, none⟩), .slice A n c] W fun e W2 => e = .returned (.tuple #[]) ∧ Fin10 w p q bk x y W2 ∧ Tn w.heap.size (twoT 68 53) W W2 := by
  obtain ⟨bcs, ZK, k1, k2, k3⟩ := S.book
  refine (keepInts_any w.heap.size bk lo lo bcs [] A n c L W k1 (KSt.nil (k3 2 (by decide) (by decide) (by decide)) (k3 3 (by decide) (by decide) (by decide))) ho (Nat.le_refl _) hlo S.hbk S.size hlo2 hL).mono ?_
  rintro e W2 ⟨h1, bcs', Z', h2, h3, h4, h5, _⟩
  obtain ⟨Z, hz⟩ := S.sk
  have k6 := k2.tn h5 (fun _ _ => rfl) (fun _ _ => rfl)
  have k7 := (k6.fields (h4 6 (by decide) (by decide)) (h4 7 (by decide) (by decide))).up h5.size
  exact ⟨h1, ⟨⟨Z, hz.tn h5 (fun t cs fr ht => by rcases ht with rfl | rfl <;> rfl)⟩, S.ref.tn h5 (fun t cs fr ht => by rcases ht with rfl | rfl <;> rfl), ⟨bcs', Z', ZK, h2, h3.up h5.size, k7, fun j hj h2' h3' h6 h7 => (h4 j h2' h3').trans (k3 j hj h6 h7)⟩, S.below.trans (h5.below S.size)⟩, h5⟩
theorem fin_rfrom (F : Fin10 w p q bk x y W) (hy : y.L.length ≤ 100000) {key : ByteArray} {most : Int} {L : List (ByteArray × ByteArray)} (e1 : fromL y.L key most = L) (hk : key.size ≤ 140737488351232) :
    Calls Tryz.prog 13 #[.pointer (some ⟨q, 0, none⟩), .string key, .int .i64 most] W fun e W' => ∃ A n c, e = .returned (.slice A n c) ∧ Own elKeys W' W.heap.size 78 (.slice A n c) L ∧ W.grownBy W' none := by
  refine (rfrom10 F.ref key most hk hy).mono ?_
  rintro e W' ⟨v, rfl, h1, h2⟩
  rw [e1] at h1
  obtain ⟨A, c, rfl⟩ := h1.slice
  exact ⟨A, _, c, rfl, h1, h2⟩
theorem fin_rlanes (F : Fin10 w p q bk x y W) (hy : y.L.length ≤ 100000) {L : List Int} (e1 : lanesTo y.L (hiL y.L) = L) :
    Calls Tryz.prog 24 #[.pointer (some ⟨q, 0, none⟩)] W fun e W' => ∃ A n c, e = .returned (.slice A n c) ∧ Own elInts W' W.heap.size 3 (.slice A n c) L ∧ W.grownBy W' none := by
  refine (rlanes10 F.ref hy).mono ?_
  rintro e W' ⟨v, rfl, h1, h2⟩
  rw [e1] at h1
  obtain ⟨A, c, rfl⟩ := h1.slice
  exact ⟨A, _, c, rfl, h1, h2⟩
theorem st_lanes1 (S : St10 w p q bk b x y cs W) {L : List Int} (e1 : lanesTo x.L (hiL x.L) = L) :
    Calls Tryz.prog 21 #[.pointer (some ⟨p, 0, none⟩)] W fun e W' => ∃ A n c, e = .returned (.slice A n c) ∧ Own elInts W' W.heap.size 3 (.slice A n c) L ∧ W.grownBy W' none := by
  refine (st_sklanes S).mono ?_
  rintro e W' ⟨v, rfl, h1, h2⟩
  rw [e1] at h1
  obtain ⟨A, c, rfl⟩ := h1.slice
  exact ⟨A, _, c, rfl, h1, h2⟩
theorem fin_bytes (F : Fin10 w p q bk x y W) {z : Int} (e1 : (bytesL x.L : Int) = z) :
    Calls Tryz.prog 25 #[.pointer (some ⟨p, 0, none⟩)] W fun e W' => e = .returned (.int .i64 z) ∧ W.grownBy W' none := by
  obtain ⟨Z, hz⟩ := F.sk
  exact (skbytes_any hz).mono fun e W' ⟨h1, h2⟩ => ⟨by rw [h1, e1], by rw [h2]; exact grefl W none⟩
theorem fin_rbytes (F : Fin10 w p q bk x y W) (hy : y.L.length ≤ 100000) {z : Int} (e1 : (bytesL y.L : Int) = z) :
    Calls Tryz.prog 26 #[.pointer (some ⟨q, 0, none⟩)] W fun e W' => e = .returned (.int .i64 z) ∧ W.grownBy W' none :=
  (rbytes10 F.ref (by omega)).mono fun e W' ⟨h1, j, h2⟩ => ⟨by rw [h1, e1], by rw [h2]; exact only_drewN (grefl W none) j⟩
theorem fin_apart (F : Fin10 w p q bk x y W) :
    Calls Tryz.prog 27 #[.pointer (some ⟨bk, 0, none⟩)] W fun e W' => e = .returned (.bool true) ∧ Below w.heap.size w W' := by
  obtain ⟨bcs, ZI, ZK, k1, k2, k3, k4⟩ := F.book
  exact (apartIntsKeys w.heap.size bk bcs ZI W.heap.size ZK W.heap.size W k1 k2 k3 k4 F.below.size).mono fun e W' ⟨h1, h2⟩ => ⟨h1, F.below.trans h2⟩
end
end Go.Proofs.YtmagkkkecihgmaaGreat
