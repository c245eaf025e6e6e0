/-
  Package skip, part 11: the iterator over the pairs from a key on.
-/
import Derived.Test.YtmagkkkecihgmaaGreatSp6
import Derived.RangeFuncFrom
import Derived.RangeFuncLeaves
import Derived.Shelf.Abstract
import Derived.Shelf.RegionOpen
import Derived.WalkKit
import Derived.OwnWalkIn
import Derived.TacticsInMore
import Derived.LoopNIn
import Derived.LoopIn
namespace Go.Proofs.YtmagkkkecihgmaaGreat
open Go.RowKit Go.Shelf


theorem SkZ.below {B p n₀ : Nat} {w w' : World} {s : S10} {Z : List Z10} (h : SkZ B p w s Z) (hn : ∀ k, Foot p Z k → k < n₀) (g : Below n₀ w w') : SkZ B p w' s Z :=
  h.tu (S := fun k => ¬ k < n₀) ⟨g.os, g.tape, g.output, g.size, fun k _ hk => g.block k (by omega)⟩ (fun k hk hS => hS (hn k hk))
/-- An array of pairs, stored, inside a fence. -/
theorem wpListIn_store_arr {F : Fence} {n : Nat} {w : World} {ops : Array Oper} {rest : List Oper} {o : Oper} {a : Act} {Q : Exit → Act → World → Prop} {b : Nat} {old cs : Array Value} (hb : Blk w b 31 old) (hs : old.size = 12) (hs' : cs.size = 12) (hone : cs.all (·.oneCell') = true) (hgd : o.guard = none) (x y : Operand) (ho : o.op = .store 31 x y) (hx : a.eval x = .pointer (some ⟨b, 0, none⟩)) (hy : a.eval y = .agg cs)
    (h : ∀ w', Blk w' b 31 cs → w.grownBy w' (some b) → wpListIn F n Tryz.prog ops Q rest (a.put o.dst undef) w') : wpListIn F n Tryz.prog ops Q (o :: rest) a w := by
  refine wpListIn_plain hgd fun K hK => ?_
  unfold Oper.wpIn
  refine ⟨by simp [Oper.about, ho], ?_⟩
  rw [Oper.semAt_plain F _ _ (by rw [ho]; intro c hc; cases hc)]
  have hr := run_storeVar_row (P := Tryz.prog) w b 31 31 old cs hb (infoArr.trans (by rw [hs'])) (hs.trans hs'.symm) hone
  simp only [execOp, ho, hx, hy, Instr.storeAt, Instr.sureAddr, Sem.run_bind, Sem.run_pure, Result.andThen_ok, hr]
  exact hK _ _ (h _ (setRow_blk hb).1 (setRow_blk hb).2)

/-- The pairs from a place on, each with the word that it is one of the list's. -/
abbrev Elt (Z : List Z10) := { m : Z10 // m ∈ Z }
def eltsFrom (Z : List Z10) (k : Nat) : List (Elt Z) := (Z.drop k).attach.map fun m => ⟨m.1, List.mem_of_mem_drop m.2⟩
theorem elts_val (Z : List Z10) (k : Nat) : (eltsFrom Z k).map Subtype.val = Z.drop k := by
  unfold eltsFrom
  rw [List.map_map]
  exact List.attach_map_subtype_val _
theorem elts_len (Z : List Z10) (k : Nat) : (eltsFrom Z k).length = Z.length - k := by
  rw [← List.length_map (f := Subtype.val), elts_val, List.length_drop]
theorem elts_take {Z : List Z10} {k j : Nat} {m : Z10} (hm : Z[k + j]? = some m) : (eltsFrom Z k).take (j + 1) = (eltsFrom Z k).take j ++ [⟨m, List.mem_of_getElem? hm⟩] := by
  have hlt := (List.getElem?_eq_some_iff.1 hm).1
  have hl : j < (eltsFrom Z k).length := by rw [elts_len]; omega
  rw [List.take_succ_eq_append_getElem hl]
  congr 2
  apply Subtype.ext
  have h1 : ((eltsFrom Z k).map Subtype.val)[j]? = some m := by rw [elts_val, List.getElem?_drop]; exact hm
  rw [List.getElem?_map, List.getElem?_eq_getElem hl] at h1
  injection h1

/-- How many pairs are to come, told by where the next one lies. -/
def leftZ (Z : List Z10) (v : Value) : Nat := match v with
  | .pointer (some a) => Z.length - Z.findIdx fun m => m.1 == a.block
  | _ => 0
theorem leftZ_at {Z : List Z10} (hap : ∀ (i j : Nat) (m n : Z10), Z[i]? = some m → Z[j]? = some n → m.1 = n.1 → i = j) {k : Nat} {m : Z10} (hm : Z[k]? = some m) : leftZ Z (.pointer (some (toA m))) = Z.length - k := by
  have hl := (List.getElem?_eq_some_iff.1 hm).1
  have e : (Z.findIdx fun n => n.1 == (toA m).block) = k := by
    have h1 : Z.findIdx (fun n => n.1 == (toA m).block) < Z.length := List.findIdx_lt_length_of_exists ⟨m, List.mem_of_getElem? hm, beq_self_eq_true _⟩
    have h2 := List.findIdx_getElem (w := h1)
    exact hap _ k _ m (List.getElem?_eq_getElem h1) hm (beq_iff_eq.1 h2)
  show Z.length - _ = _
  rw [e]
theorem leftZ_nil {Z : List Z10} : leftZ Z (.pointer none) = 0 := rfl

set_option maxRecDepth 100000 in
set_option maxHeartbeats 2000000 in
theorem from_any (v : Option Addr) (key : ByteArray) (w : World) :
    Calls Tryz.prog 35 #[.pointer v, .string key] w fun e w' => e = .returned (.func (.func 103) #[] #[.pointer (some ⟨w.heap.size, 0, none⟩), .pointer (some ⟨w.heap.size + 1, 0, none⟩)]) ∧ w' = (w.alloc (.cells #[.pointer v] 24)).alloc (.cells #[.string key] 9) := by
  have hmf : ∀ (fn : Fn) (first cap : Array Value) (w : World), (Instr.makeFunc fn first cap).run Tryz.prog w = .ok (.func fn first cap) w := fun _ _ _ _ => rfl
  go_enter Tryz.func35, Tryz.ntmps35
  go_wp2_with fail
  go_ret
  exact ⟨rfl, rfl⟩

set_option maxRecDepth 100000 in
set_option maxHeartbeats 4000000 in
theorem from1_in {B p n : Nat} {s : S10} {w : World} {Z : List Z10} (h : SkZ B p w s Z) (key : ByteArray) (hL : s.L.length ≤ 100000) (hn : 1 ≤ n) (l b0 b1 : Nat) (J Jx : List (Elt Z) → World → Prop)
    (hY : ∀ pre x W, J pre W → pre.length < Z.length - placeL s.L key → YieldAt Fence.wide (n - 1) Tryz.prog l #[.pointer (some (toA x.1))] W fun e W' =>
      (e = .returned (.bool true) ∧ J (pre ++ [x]) W' ∧ Below w.heap.size W W') ∨ (e = .returned (.bool false) ∧ Jx (pre ++ [x]) W'))
    (W : World) (hB : Below w.heap.size w W) (hJ2 : AbidesFrom W.heap.size J) (c0 : W.cell? ⟨b0, 0, none⟩ = some (.pointer (some ⟨p, 0, none⟩))) (c1 : W.cell? ⟨b1, 0, none⟩ = some (.string key)) (h0 : J [] W) :
    CallsIn Fence.wide n Tryz.prog 103 #[.func (.yield l) #[] #[], .pointer (some ⟨b0, 0, none⟩), .pointer (some ⟨b1, 0, none⟩)] W fun e W' => (∃ v, e = .returned v) ∧
      ((∃ ys, ys = eltsFrom Z (placeL s.L key) ∧ J ys W') ∨ (∃ pre, pre <+: eltsFrom Z (placeL s.L key) ∧ Jx pre W')) := by
  have hfoot : ∀ k, Foot p Z k → k < w.heap.size := fun k hk => (h.at_.foot_lt hk).2
  have hW := h.below hfoot hB
  have CW := Lib.hid (way_any hW key hL)
  have hpl := h.pl_le key
  generalize placeL s.L key = pl at *
  refine callsIn_of_wp Tryz.func103 rfl trivial ?_ rfl
  simp only [Tryz.ntmps103, List.size_toArray, List.length_cons, List.length_nil, Nat.reduceAdd, Nat.reduceSub, Array.replicate_succ, Array.replicate_zero, List.push_toArray, List.append_toArray, List.nil_append, List.cons_append]
  gi_wp2_with (first
    | (refine ⟨trivial, ?_⟩; gi_at_call 31; refine (callsIn_wide.2 CW.out).mono ?_; rintro e w1 ⟨rfl, G1⟩)
    | (refine wpListIn_store_arr (Blk.new _ _ _) rfl (befV_size p Z pl) (befV_one p Z pl) rfl (.tmp 4) (.tmp 13) rfl rfl rfl ?_; intro w3 A3 G3; have G4 := grown_new (gnone G1 (World.grownBy_alloc _ _ none)) G3 G1.size; obtain ⟨y0, y1⟩ := hW.ahead hpl G4 A3))
  have HB3 := Lib.hid (hB.trans ((below_g G4).mono hB.size))
  have J3 := Lib.hid (hJ2 [] W w3 none h0 G4 (fun r e => by cases e))
  have HZ := Lib.hid (fun (wr : World) (g : Below w.heap.size w wr) => h.below hfoot g)
  have HY := Lib.hid hY
  have hap := Lib.hid h.at_.apart
  have Hpl := Lib.hid hpl
  clear hB hJ2 h0 G4 G3 A3 G1 hY h hW y0 y1 c0 c1 CW hpl
  gi_loopw [6] (fun s6 wr => ∃ k : Nat, s6 = .pointer ((Z[k]?).map toA) ∧ Hid (pl ≤ k ∧ k ≤ Z.length) ∧ Hid (J ((eltsFrom Z pl).take (k - pl)) wr) ∧ Hid (Below w.heap.size w wr)) (fun s6 _ => leftZ Z s6)
  case atStart => exact ⟨pl, rfl, Lib.hid ⟨Nat.le_refl _, Hpl.out⟩, by rw [Nat.sub_self]; exact J3, HB3⟩
  case round =>
    obtain ⟨k, rfl, Hk, HJ, HB⟩ := hrel
    clear J3 HB3
    obtain ⟨k1, k2⟩ := Hk.out
    cases hm : Z[k]? with
    | none =>
      have e1 : k = Z.length := by have := List.getElem?_eq_none_iff.1 hm; omega
      have e2 : (eltsFrom Z pl).take (k - pl) = eltsFrom Z pl := List.take_of_length_le (by rw [elts_len]; omega)
      rw [e2] at HJ
      clear e1 e2
      rw [Option.map_none]
      gi_wp2
      all_goals (try (refine ⟨fun _ h => (by cases h), ?_⟩; gi_wp2))
      go_end0
      exact ⟨⟨_, rfl⟩, .inl ⟨_, rfl, HJ.out⟩⟩
    | some m =>
      have hl := (List.getElem?_eq_some_iff.1 hm).1
      have hm2 : Z[pl + (k - pl)]? = some m := by rw [show pl + (k - pl) = k by omega]; exact hm
      have ht := elts_take (k := pl) hm2
      obtain ⟨fn, tmps, assign, body, hy, hR⟩ := HY.out _ ⟨m, List.mem_of_getElem? hm2⟩ wr HJ.out (by rw [List.length_take, elts_len]; omega)
      have ek : k + 1 - pl = k - pl + 1 := by omega
      rw [← ht, ← ek] at hR
      have hlen : (eltsFrom Z pl).take (k + 1 - pl) <+: eltsFrom Z pl := List.take_prefix _ _
      have hLeft := leftZ_at hap.out hm
      rw [Option.map_some]
      dsimp only at hy
      clear ht ek
      have em : toA m = ⟨m.1, 0, none⟩ := rfl
      rw [em] at hy hLeft ⊢
      have HZk := Lib.hid (fun (wr : World) (g : Below w.heap.size w wr) => (show wr.cell? ⟨m.1, 2, none⟩ = some (.pointer ((Z[k + 1]?).map toA)) by
        have hz := HZ.out wr g
        have := (hz.at_.nd k m hm).link (t := 0) (by decide)
        rw [hz.lnk0 (by omega)] at this
        exact this))
      have HB2 := HB.out
      have Hk2 : Hid (pl ≤ k + 1 ∧ k + 1 ≤ Z.length) := ⟨by omega, by omega⟩
      have Hme : Hid (leftZ Z (.pointer ((Z[k + 1]?).map toA)) < leftZ Z (.pointer (some ⟨m.1, 0, none⟩))) := by
        show leftZ Z _ < leftZ Z _
        rw [hLeft]
        cases h2 : Z[k + 1]? with
        | none =>
          rw [Option.map_none, leftZ_nil]
          omega
        | some m2 =>
          rw [Option.map_some, leftZ_at hap.out h2]
          have := (List.getElem?_eq_some_iff.1 h2).1
          omega
      clear em hLeft hm2 hl k1 k2 hm HJ HB
      gi_wp2
      refine hR.mono ?_
      rintro e W3 (⟨rfl, hJ3, hk3⟩ | ⟨rfl, hJx3⟩)
      · have hq3 := HZk.out W3 (HB2.trans hk3)
        have HJ4 := Lib.hid hJ3
        have HB4 := Lib.hid (HB2.trans hk3)
        clear hk3 hJ3 HB2 hR hy HZk
        gi_wp2
        go_roundw
        case rel => exact ⟨k + 1, rfl, Hk2, HJ4, HB4⟩
        case measure => exact Hme.out
      · gi_wp2
        go_end0
        exact ⟨⟨_, rfl⟩, .inr ⟨_, hlen, hJx3⟩⟩
/-- The iterator's contract. -/
theorem from_stops {B p n : Nat} {s : S10} {w w0 : World} {Z : List Z10} (h : SkZ B p w s Z) (key : ByteArray) (hL : s.L.length ≤ 100000) (hn : 1 ≤ n) (b0 b1 : Nat) (hB : Below w.heap.size w w0) (h0 : b0 < w0.heap.size) (h1 : b1 < w0.heap.size)
    (c0 : w0.cell? ⟨b0, 0, none⟩ = some (.pointer (some ⟨p, 0, none⟩))) (c1 : w0.cell? ⟨b1, 0, none⟩ = some (.string key)) :
    SeqStopsK Fence.wide n Tryz.prog 103 #[.pointer (some ⟨b0, 0, none⟩), .pointer (some ⟨b1, 0, none⟩)] (fun x : Elt Z => #[.pointer (some (toA x.1))]) (Below w.heap.size) (fun ys => ys = eltsFrom Z (placeL s.L key)) (fun pre => pre <+: eltsFrom Z (placeL s.L key)) (Z.length - placeL s.L key) w0 :=
  fun l J Jx W hW hJ _ hY hJ0 => from1_in h key hL hn l b0 b1 J Jx hY W (hB.trans (hW.mono hB.size)) hJ ((hW.cell (p := ⟨b0, 0, none⟩) h0).trans c0) ((hW.cell (p := ⟨b1, 0, none⟩) h1).trans c1) hJ0
end Go.Proofs.YtmagkkkecihgmaaGreat
