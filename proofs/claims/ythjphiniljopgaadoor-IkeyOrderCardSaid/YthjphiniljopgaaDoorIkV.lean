/-
  A version in a block of the call's own: cells stored one behind the other; worlds in which one block more was turned.
-/
import Derived.Test.YthjphiniljopgaaDoorIkL
import Derived.Test.YthjphiniljopgaaDoorGetP
import Derived.Laws.ResultCell
namespace Go.Proofs.YthjphiniljopgaaDoor
open Go.RowKit

theorem ver_set_0 {w : World} {p : Nat} {t : TypeId} {key : ByteArray} {A : Option Addr} {n c : Nat} {o x kd : Int} {nu : Nat} {it : Int} {tx : ByteArray} (B : Blk w p t (verC key A n c o x kd nu it tx)) (key' : ByteArray) : Blk (w.setCell ⟨p, 0, none⟩ (.string key')) p t (verC key' A n c o x kd nu it tx) := by
  have h := B.set_ 0 (.string key')
  simpa [verC] using h
theorem ver_set_1 {w : World} {p : Nat} {t : TypeId} {key : ByteArray} {A : Option Addr} {n c : Nat} {o x kd : Int} {nu : Nat} {it : Int} {tx : ByteArray} (B : Blk w p t (verC key A n c o x kd nu it tx)) (A' : Option Addr) (n' c' : Nat) : Blk (w.setCell ⟨p, 1, none⟩ (.slice A' n' c')) p t (verC key A' n' c' o x kd nu it tx) := by
  have h := B.set_ 1 (.slice A' n' c')
  simpa [verC] using h
theorem ver_set_2 {w : World} {p : Nat} {t : TypeId} {key : ByteArray} {A : Option Addr} {n c : Nat} {o x kd : Int} {nu : Nat} {it : Int} {tx : ByteArray} (B : Blk w p t (verC key A n c o x kd nu it tx)) (o' : Int) : Blk (w.setCell ⟨p, 2, none⟩ (.int .i64 o')) p t (verC key A n c o' x kd nu it tx) := by
  have h := B.set_ 2 (.int .i64 o')
  simpa [verC] using h
theorem ver_set_3 {w : World} {p : Nat} {t : TypeId} {key : ByteArray} {A : Option Addr} {n c : Nat} {o x kd : Int} {nu : Nat} {it : Int} {tx : ByteArray} (B : Blk w p t (verC key A n c o x kd nu it tx)) (x' : Int) : Blk (w.setCell ⟨p, 3, none⟩ (.int .i64 x')) p t (verC key A n c o x' kd nu it tx) := by
  have h := B.set_ 3 (.int .i64 x')
  simpa [verC] using h
theorem ver_set_4 {w : World} {p : Nat} {t : TypeId} {key : ByteArray} {A : Option Addr} {n c : Nat} {o x kd : Int} {nu : Nat} {it : Int} {tx : ByteArray} (B : Blk w p t (verC key A n c o x kd nu it tx)) (kd' : Int) : Blk (w.setCell ⟨p, 4, none⟩ (.int .i64 kd')) p t (verC key A n c o x kd' nu it tx) := by
  have h := B.set_ 4 (.int .i64 kd')
  simpa [verC] using h
theorem ver_set_5 {w : World} {p : Nat} {t : TypeId} {key : ByteArray} {A : Option Addr} {n c : Nat} {o x kd : Int} {nu : Nat} {it : Int} {tx : ByteArray} (B : Blk w p t (verC key A n c o x kd nu it tx)) (nu' : Nat) : Blk (w.setCell ⟨p, 5, none⟩ (.float .f64 nu')) p t (verC key A n c o x kd nu' it tx) := by
  have h := B.set_ 5 (.float .f64 nu')
  simpa [verC] using h
theorem ver_set_6 {w : World} {p : Nat} {t : TypeId} {key : ByteArray} {A : Option Addr} {n c : Nat} {o x kd : Int} {nu : Nat} {it : Int} {tx : ByteArray} (B : Blk w p t (verC key A n c o x kd nu it tx)) (it' : Int) : Blk (w.setCell ⟨p, 6, none⟩ (.int .i64 it')) p t (verC key A n c o x kd nu it' tx) := by
  have h := B.set_ 6 (.int .i64 it')
  simpa [verC] using h
theorem ver_set_7 {w : World} {p : Nat} {t : TypeId} {key : ByteArray} {A : Option Addr} {n c : Nat} {o x kd : Int} {nu : Nat} {it : Int} {tx : ByteArray} (B : Blk w p t (verC key A n c o x kd nu it tx)) (tx' : ByteArray) : Blk (w.setCell ⟨p, 7, none⟩ (.string tx')) p t (verC key A n c o x kd nu it tx') := by
  have h := B.set_ 7 (.string tx')
  simpa [verC] using h
theorem ver_set8 {w : World} {p : Nat} {t : TypeId} {key : ByteArray} {A : Option Addr} {n c : Nat} {o x kd : Int} {nu : Nat} {it : Int} {tx : ByteArray} (B : Blk w p t (verC key A n c o x kd nu it tx)) (key' : ByteArray) (A' : Option Addr) (n' c' : Nat) (o' x' kd' : Int) (nu' : Nat) (it' : Int) (tx' : ByteArray) :
    Blk ((((((((w.setCell ⟨p, 0, none⟩ (.string key')).setCell ⟨p, 1, none⟩ (.slice A' n' c')).setCell ⟨p, 2, none⟩ (.int .i64 o')).setCell ⟨p, 3, none⟩ (.int .i64 x')).setCell ⟨p, 4, none⟩ (.int .i64 kd')).setCell ⟨p, 5, none⟩ (.float .f64 nu')).setCell ⟨p, 6, none⟩ (.int .i64 it')).setCell ⟨p, 7, none⟩ (.string tx')) p t (verC key' A' n' c' o' x' kd' nu' it' tx') :=
  (ver_set_7 (ver_set_6 (ver_set_5 (ver_set_4 (ver_set_3 (ver_set_2 (ver_set_1 (ver_set_0 B key') A' n' c') o') x') kd') nu') it') tx')
theorem below_set8 {w0 w : World} {p B : Nat} (h : Below B w0 w) (hp : B ≤ p) (v0 v1 v2 v3 v4 v5 v6 v7 : Value) :
    Below B w0 ((((((((w.setCell ⟨p, 0, none⟩ v0).setCell ⟨p, 1, none⟩ v1).setCell ⟨p, 2, none⟩ v2).setCell ⟨p, 3, none⟩ v3).setCell ⟨p, 4, none⟩ v4).setCell ⟨p, 5, none⟩ v5).setCell ⟨p, 6, none⟩ v6).setCell ⟨p, 7, none⟩ v7) :=
  below_setCell (below_setCell (below_setCell (below_setCell (below_setCell (below_setCell (below_setCell (below_setCell h hp _) hp _) hp _) hp _) hp _) hp _) hp _) hp _

theorem getT_n (s : ByteArray) : 0 ≤ (getT s).2.1 ∧ (getT s).2.1 ≤ 49 := by
  unfold getT
  split
  · exact ⟨by simp, by simp⟩
  · split
    · exact ⟨by simp, by simp⟩
    · split
      · exact ⟨by simp, by simp⟩
      · exact ⟨by simp; omega, by simp; omega⟩
theorem cut_list (s : ByteArray) (a b : Nat) : (s.extract a b).data.toList = (s.data.toList.drop a).take (b - a) := by
  simp [ByteArray.data_extract, Array.toList_extract, List.extract_eq_take_drop]

theorem byt_below {w w' : World} {B : Nat} {e : TypeId} {v : Value} {l : List UInt8} (h : Byt w B e v l) (hb : Below w.heap.size w w') : Byt w' B e v l := by
  refine ⟨h.1, ?_⟩
  rcases h.2 with hn | ⟨g, cap, cur, hv, hg, hh, r⟩
  · exact Or.inl hn
  · exact Or.inr ⟨g, cap, cur, hv, hg, (hb.block g (Array.getElem?_eq_some_iff.1 hh).1).trans hh, r⟩
theorem nums_set8 {w : World} {B p : Nat} {e : TypeId} {v : Value} {zs : List Int} (h : Nums w B e v zs) (hp : p < B) (v0 v1 v2 v3 v4 v5 v6 v7 : Value) :
    Nums ((((((((w.setCell ⟨p, 0, none⟩ v0).setCell ⟨p, 1, none⟩ v1).setCell ⟨p, 2, none⟩ v2).setCell ⟨p, 3, none⟩ v3).setCell ⟨p, 4, none⟩ v4).setCell ⟨p, 5, none⟩ v5).setCell ⟨p, 6, none⟩ v6).setCell ⟨p, 7, none⟩ v7) B e v zs :=
  ownsRow_setCell_below (ownsRow_setCell_below (ownsRow_setCell_below (ownsRow_setCell_below (ownsRow_setCell_below (ownsRow_setCell_below (ownsRow_setCell_below (ownsRow_setCell_below h hp v0) hp v1) hp v2) hp v3) hp v4) hp v5) hp v6) hp v7

/-! ### Worlds in which block p was turned, and new blocks were made -/
section
variable {a w w' : World} {p q : Nat}
theorem kgrow_refl (w : World) (r : Option Nat) : w.grownBy w r := ⟨rfl, rfl, rfl, Nat.le_refl _, fun _ _ _ => rfl⟩
theorem kgrow_trans (h : a.grownBy w (some p)) (h' : w.grownBy w' (some p)) : a.grownBy w' (some p) :=
  ⟨h'.os.trans h.os, h'.tape.trans h.tape, h'.output.trans h.output, Nat.le_trans h.size h'.size, fun i hi hn => (h'.block i (Nat.lt_of_lt_of_le hi h.size) hn).trans (h.block i hi hn)⟩
theorem kgrow_below (h : a.grownBy w (some p)) (hb : Below w.heap.size w w') : a.grownBy w' (some p) :=
  ⟨hb.os.trans h.os, hb.tape.trans h.tape, hb.output.trans h.output, Nat.le_trans h.size hb.size, fun i hi hn => (hb.block i (Nat.lt_of_lt_of_le hi h.size)).trans (h.block i hi hn)⟩
theorem kgrow_of_below (hb : Below w.heap.size w w') (r : Option Nat) : w.grownBy w' r := ⟨hb.os, hb.tape, hb.output, hb.size, fun i hi _ => hb.block i hi⟩
theorem kblk_by {t : TypeId} {cs : Array Value} (h : Blk w q t cs) (G : w.grownBy w' (some p)) (hn : q ≠ p) : Blk w' q t cs := h.grown G (fun e => hn (Option.some.inj e))
theorem kbelow_by {B : Nat} (h : Below B a w) (g : w.grownBy w' (some p)) (hB : B ≤ a.heap.size) (hp : B ≤ p) : Below B a w' :=
  h.grown g (Nat.le_trans hB h.size) (fun k hk => by injection hk with hk; omega)
end
end Go.Proofs.YthjphiniljopgaaDoor
