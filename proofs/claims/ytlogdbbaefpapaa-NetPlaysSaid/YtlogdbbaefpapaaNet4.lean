/-
  Package net, part 4: slices.Delete of one message; remove.
-/
import Derived.Test.YtlogdbbaefpapaaNet3
import Derived.Deep.RegionLaw
import Derived.Shelf.RegionOpenPlain
namespace Go.Proofs.Ytlogdbbaefpapaa
open Go.RowKit Go.Maps

theorem info_msg : (Try.prog.info? 58).map (fun i => (i.zero, i.size, i.bytes)) = some (some (.agg #[.int .i64 0, .int .i64 0, .string ⟨#[]⟩]), 3, 32) := by kernel_rfl
theorem zero_msg (w : World) : (zeroValue 58).run Try.prog w = .ok (.agg #[.int .i64 0, .int .i64 0, .string ⟨#[]⟩]) w := by kernel_rfl
def zmL : List Value := [.int .i64 0, .int .i64 0, .string ⟨#[]⟩]
theorem zeroCells_msg : (Builtin.zeroCells (Value.agg #[.int .i64 0, .int .i64 0, .string ⟨#[]⟩]).cells 1).toList = zmL := by
  simp [Builtin.zeroCells, Value.cells, zmL, Array.toList_range, List.range_succ]
theorem rowC_oneCell (L : List (Int × Int × ByteArray)) : ∀ u ∈ rowC L, u.oneCell' = true := by
  intro u hu
  obtain ⟨m, _, hm⟩ := List.mem_flatMap.1 hu
  simp [msgC] at hm
  rcases hm with rfl | rfl | rfl <;> rfl
theorem add_lit0 (g j : Nat) : (⟨g, 0, none⟩ : Addr).add j = ⟨g, j, none⟩ := by unfold Addr.add; split <;> simp_all
theorem setRow_grown (w : World) (g : Nat) (cs : Array Value) : w.grownBy (w.setRow g cs) (some g) := ⟨rfl, rfl, rfl, by simp, fun k _ hk => setRow_other w g k cs (fun e => hk (by rw [e]))⟩

/-- An append whose run is known, at the operation. -/
theorem step_append_eq {P : Program} {ops : Array Oper} {o : Oper} {a : Act} {w w' : World} {K : Act → World → Prop} {Q : Exit → Act → World → Prop} {E : Prop}
    (hg : o.guard = none) (s x : Operand) (t : TypeId) (hop : o.op = Op.call { callee := Callee.builtin Builtin.append, args := #[s, x], argTypes := #[t, t] })
    (vs vx v : Value) (hs : a.eval s = vs) (hx : a.eval x = vx) (hrun : (Builtin.append_ #[t, t] o.type #[vs, vx]).run P w = .ok v w') (hK : K (a.put o.dst v) w') :
    if Region.wanted o (yielded ops a.tmps) = true then Oper.wp P o a w K Q else E := by
  have hw : Region.wanted o (yielded ops a.tmps) = true := by simp [Region.wanted, hg]
  rw [if_pos hw]
  unfold Oper.wp
  simp [execOp, hop, resolve, invoke, builtin, hs, hx, hrun, Result.andThen]
  exact hK

/-- 'clear' of one message. -/
theorem run_clear_msg (w : World) (ty : TypeId) (g o n c : Nat) (cur : Array Value) (hn : n = 1) (hg : w.heap[g]? = some (.cells cur 58 (0, 0))) (ho : o + 3 ≤ cur.size) :
    (Builtin.clear_ #[45] ty #[.slice (some ⟨g, o, none⟩) n c]).run Try.prog w = .ok (.tuple #[]) (w.setRow g (cur.toList.take o ++ zmL ++ cur.toList.drop (o + 3)).toArray) := by
  subst hn
  have hst := run_storeCells_at Try.prog g o 58 zmL 0 cur w hg (by simpa [zmL] using ho) (by intro v hv; simp [zmL] at hv; rcases hv with rfl | rfl | rfl <;> rfl)
  simp only [Nat.add_zero, show zmL.length = 3 from rfl] at hst
  simp only [Builtin.clear_]
  simp [run_underlying Try.underlying45, zeroCells_msg, hst]

/-- What Delete leaves in the block. -/
theorem delete_cells (cur : Array Value) (L : List (Int × Int × ByteArray)) (cap k : Nat) (hs : cur.size = cap * 3) (ht : cur.toList.take (L.length * 3) = rowC L) (hk : k < L.length) (hc : L.length ≤ cap) (cur1 : Array Value)
    (h1 : cur1 = (cur.toList.take (k * 3) ++ rowC (L.drop (k + 1)) ++ cur.toList.drop (k * 3 + (rowC (L.drop (k + 1))).length)).toArray) :
    cur1.size = cap * 3 ∧ cur1.toList.take ((L.length - 1) * 3) = rowC (L.take k ++ L.drop (k + 1)) := by
  have hl : (rowC (L.drop (k + 1))).length = (L.length - (k + 1)) * 3 := by rw [rowC_length, List.length_drop]
  have hcl : cur.toList.length = cap * 3 := by simpa using hs
  have e0 : cur.toList.take (k * 3) = rowC (L.take k) := by
    rw [rowC_take, ← ht, List.take_take, Nat.min_eq_left (by omega)]
  constructor
  · rw [h1]
    simp only [List.size_toArray, List.length_append, List.length_take, List.length_drop, hcl, hl]
    omega
  · rw [h1, rowC_append]
    show List.take _ (_ ++ _ ++ _) = _
    have e1 : (cur.toList.take (k * 3) ++ rowC (L.drop (k + 1))).length = (L.length - 1) * 3 := by
      rw [List.length_append, List.length_take, hcl, hl]
      omega
    rw [← e1, List.take_left, e0]

set_option maxRecDepth 100000 in
set_option maxHeartbeats 4000000 in
theorem delete_any (g cap k B : Nat) (L : List (Int × Int × ByteArray)) (w : World) (hB : B ≤ g) (cur : Array Value) (hg : w.heap[g]? = some (.cells cur 58 (0, 0))) (hc : L.length ≤ cap) (hm : cap ≤ maxLen) (hs : cur.size = cap * 3) (ht : cur.toList.take (L.length * 3) = rowC L) (hk : k < L.length) :
    Calls Try.prog 42 #[.slice (some ⟨g, 0, none⟩) L.length cap, .int .i64 (k : Int), .int .i64 ((k + 1 : Nat) : Int)] w fun e w' =>
      ∃ sl, e = .returned sl ∧ w'.ownsRow B 58 3 sl (L.take k ++ L.drop (k + 1)).length (rowC (L.take k ++ L.drop (k + 1))) ∧ w.grownBy w' (some g) := by
  obtain ⟨i0, hi, hz0, hz1, hz2⟩ := info_parts info_msg
  obtain ⟨len, hlen⟩ : ∃ len, len = L.length := ⟨_, rfl⟩
  have hnl : (L.take k ++ L.drop (k + 1)).length = len - 1 := by rw [List.length_append, List.length_take, List.length_drop]; omega
  obtain ⟨cur1, h1⟩ : ∃ cur1, cur1 = (cur.toList.take (k * 3) ++ rowC (L.drop (k + 1)) ++ cur.toList.drop (k * 3 + (rowC (L.drop (k + 1))).length)).toArray := ⟨_, rfl⟩
  obtain ⟨hs1, ht1⟩ := delete_cells cur L cap k hs ht hk hc cur1 h1
  have hl : (rowC (L.drop (k + 1))).length = (L.length - (k + 1)) * 3 := by rw [rowC_length, List.length_drop]
  have hcl : cur.toList.length = cap * 3 := by simpa using hs
  -- where the cells behind the message lie
  obtain ⟨A, hA, hsrc⟩ : ∃ A : Addr, (if cap = k + 1 then some (⟨g, 0, none⟩ : Addr) else some ⟨g, (k + 1) * 3, none⟩) = some A ∧ (∀ t u, (rowC (L.drop (k + 1)))[t]? = some u → w.drew.cell? (A.add t) = some u) := by
    by_cases h : cap = k + 1
    · refine ⟨⟨g, 0, none⟩, by simp [h], fun t u hu => ?_⟩
      have h0 : (rowC (L.drop (k + 1))).length = 0 := by rw [hl]; omega
      rw [List.length_eq_zero_iff.1 h0] at hu
      simp at hu
    · refine ⟨⟨g, (k + 1) * 3, none⟩, by simp [h], fun t u hu => ?_⟩
      have ht0 : t < (L.length - (k + 1)) * 3 := by
        have := (List.getElem?_eq_some_iff.1 hu).1
        rwa [hl] at this
      have e1 : cur[(k + 1) * 3 + t]? = some u := by
        rw [← Array.getElem?_toList]
        have e2 : (cur.toList.take (L.length * 3))[(k + 1) * 3 + t]? = some u := by
          rw [ht]
          rw [rowC_drop, List.getElem?_drop] at hu
          exact hu
        rw [List.getElem?_take] at e2
        split at e2
        · exact e2
        · cases e2
      rw [Addr.add_lit]
      show w.cell? _ = _
      rw [cell_of_row w g _ cur 58 (0, 0) hg]
      exact e1
  have hrun1 : ∀ ty, (Builtin.append_ #[45, 45] ty #[.slice (some ⟨g, 0, none⟩) k cap, .slice (some A) (len - (k + 1)) (cap - (k + 1))]).run Try.prog w.drew = .ok (.slice (some ⟨g, 0, none⟩) (k + (len - (k + 1))) cap) (w.drew.setRow g cur1) := by
    intro ty
    have h0 := run_append_room (P := Try.prog) w.drew 45 ty 58 i0 Try.underlying45 hi g k cap cur hg A (len - (k + 1)) (cap - (k + 1)) (rowC (L.drop (k + 1))) (by rw [hl, hz1, hlen]) hsrc (rowC_oneCell _) (by omega) (by rw [hl, hs, hz1]; omega)
    rw [h0, h1, hz1]
  have hg1 : (w.drew.setRow g cur1).heap[g]? = some (.cells cur1 58 (0, 0)) := setRow_heap w.drew g cur cur1 58 (0, 0) hg
  have hrun2 : ∀ ty, (Builtin.clear_ #[45] ty #[.slice (some ⟨g, (len - 1) * 3, none⟩) (len - (len - 1)) (cap - (len - 1))]).run Try.prog (w.drew.setRow g cur1) = .ok (.tuple #[]) ((w.drew.setRow g cur1).setRow g (cur1.toList.take ((len - 1) * 3) ++ zmL ++ cur1.toList.drop ((len - 1) * 3 + 3)).toArray) :=
    fun ty => run_clear_msg _ ty g _ _ _ cur1 (by omega) hg1 (by omega)
  have hend : ((w.drew.setRow g cur1).setRow g (cur1.toList.take ((len - 1) * 3) ++ zmL ++ cur1.toList.drop ((len - 1) * 3 + 3)).toArray).ownsRow B 58 3 (.slice (some ⟨g, 0, none⟩) (len - 1) cap) (len - 1) (rowC (L.take k ++ L.drop (k + 1))) := by
    refine ⟨by rw [rowC_length, hnl], Or.inr ⟨g, cap, _, rfl, hB, setRow_heap _ g cur1 _ 58 (0, 0) hg1, by omega, hm, ?_, ?_⟩⟩
    · have : cur1.toList.length = cap * 3 := by simpa using hs1
      simp only [List.size_toArray, List.length_append, List.length_take, List.length_drop, show zmL.length = 3 from rfl, this]
      omega
    · rw [← ht1, ← hlen]
      show List.take _ (_ ++ _ ++ _) = _
      rw [List.append_assoc]
      have : (cur1.toList.take ((len - 1) * 3)).length = (len - 1) * 3 := by rw [List.length_take]; have : cur1.toList.length = cap * 3 := by simpa using hs1
                                                                             omega
      rw [List.take_append_of_le_length (by omega), List.take_take, Nat.min_self]
  have hgr : w.grownBy ((w.drew.setRow g cur1).setRow g (cur1.toList.take ((len - 1) * 3) ++ zmL ++ cur1.toList.drop ((len - 1) * 3 + 3)).toArray) (some g) := by
    have g1 := setRow_grown w.drew g cur1
    have g2 := setRow_grown (w.drew.setRow g cur1) g (cur1.toList.take ((len - 1) * 3) ++ zmL ++ cur1.toList.drop ((len - 1) * 3 + 3)).toArray
    exact ⟨g2.os.trans g1.os, g2.tape.trans g1.tape, g2.output.trans g1.output, Nat.le_trans g1.size g2.size, fun j hj hne => (g2.block j (Nat.lt_of_lt_of_le hj g1.size) hne).trans (g1.block j hj hne)⟩
  generalize ((w.drew.setRow g cur1).setRow g (cur1.toList.take ((len - 1) * 3) ++ zmL ++ cur1.toList.drop ((len - 1) * 3 + 3)).toArray) = W2 at hrun2 hend hgr
  generalize (w.drew.setRow g cur1) = W1 at hrun1 hrun2
  rw [hnl]
  rw [← hlen]
  have hk' : k < len := by omega
  have hk1 : k ≤ cap := by omega
  have hk2 : k + 1 ≤ len := by omega
  have hk3 : k + 1 ≤ cap := by omega
  have hc' : len ≤ cap := by omega
  have hm' : cap ≤ 9223372036854775807 := Nat.le_trans hm (by unfold maxLen; omega)
  clear hg hs ht hk h1 hs1 ht1 hl hcl hsrc hg1 hi hz0 hz1 hz2 hnl hc hm hlen hB
  obtain ⟨j, hj⟩ : ∃ j, j = k + 1 := ⟨_, rfl⟩
  rw [← hj] at hA hrun1 hk2 hk3 hend ⊢
  have HE := Lib.hid hend
  have HG := Lib.hid hgr
  clear hend hgr
  have hj0 : k ≤ j := by omega
  have hj1 : k + (len - j) = len - 1 := by omega
  have hj2 : len - 1 ≤ len := by omega
  have hj3 : len - 1 ≤ cap := by omega
  have hj4 : len - (len - 1) = 1 := by omega
  have hj5 : (cap = len - 1) = False := by simp; omega
  rw [hj1] at hrun1
  rw [hj4] at hrun2
  have g0 : ((k : Int) == (j : Int)) = false := by simp; omega
  have mixed : Try.prog.follows .mixedOrders = true := by kernel_rfl
  clear hj
  go_enter Try.func42, Try.ntmps42
  go_wp2_with fail
  go_region_law_o (refine step_append_eq rfl (.tmp 22) (.tmp 25) 45 rfl _ _ _ (by simp [Act.eval, Act.put]) (by simp [Act.eval, Act.put]) (hrun1 _) ?_)
  go_wp2
  go_ret
  exact ⟨_, rfl, HE.out, HG.out⟩

theorem owns_shape {w : World} {B : Nat} {e : TypeId} {sz : Nat} {v : Value} {n : Nat} {xs : List Value} (h : w.ownsRow B e sz v n xs) : ∃ A c, v = .slice A n c := by
  rcases h.2 with ⟨h, h'⟩ | ⟨g, cap, cur, h, _⟩
  · exact ⟨none, 0, by rw [h, h']⟩
  · exact ⟨_, _, h⟩
set_option maxHeartbeats 1000000 in
/-- remove: one message is taken out. -/
theorem remove_any (p : Nat) (n : Value) (mp lo : Value) (g cap k B : Nat) (L : List (Int × Int × ByteArray)) (w : World) (hB : B ≤ g) (cur : Array Value) (hg : w.heap[g]? = some (.cells cur 58 (0, 0))) (hc : L.length ≤ cap) (hm : cap ≤ maxLen) (hs : cur.size = cap * 3) (ht : cur.toList.take (L.length * 3) = rowC L) (hk : k < L.length)
    (Bp : Blk w p 47 #[n, mp, .slice (some ⟨g, 0, none⟩) L.length cap, lo]) :
    Calls Try.prog 35 #[.pointer (some ⟨p, 0, none⟩), .int .i64 (k : Int)] w fun e w' => e = .returned (.tuple #[]) ∧
      ∃ sl w1, Blk w' p 47 #[n, mp, sl, lo] ∧ w1.ownsRow B 58 3 sl (L.take k ++ L.drop (k + 1)).length (rowC (L.take k ++ L.drop (k + 1))) ∧ w.grownBy w1 (some g) ∧ w' = w1.setCell ⟨p, 2, none⟩ sl := by
  have D := Lib.hid (delete_any g cap k B L w hB cur hg hc hm hs ht hk)
  have hne : p ≠ g := by
    rintro rfl
    have := Bp
    unfold Blk at this
    rw [hg] at this
    cases this
  have c2 : w.cell? ⟨p, 2, none⟩ = some (.slice (some ⟨g, 0, none⟩) L.length cap) := Bp.cell 2
  have f2 := Bp.frozen 2
  have hw : wrap64 ((k : Int) + 1) = ((k + 1 : Nat) : Int) := by unfold wrap64; unfold maxLen at hm; omega
  have HB := Lib.hid Bp
  clear hg hc hm hs ht hk hB Bp
  generalize L.take k ++ L.drop (k + 1) = L' at D ⊢
  push_cast at hw D
  go_enter Try.func35, Try.ntmps35
  go_wp2_with fail
  refine D.out.mono ?_
  rintro e w1 ⟨sl, rfl, hown, hgr⟩
  have B1 := HB.out.grown hgr (fun e => hne (Option.some.inj e))
  have c2' : w1.cell? ⟨p, 2, none⟩ = some (.slice (some ⟨g, 0, none⟩) L.length cap) := B1.cell 2
  have f2' := B1.frozen 2
  have H1 := Lib.hid hown
  have H2 := Lib.hid hgr
  have H3 := Lib.hid B1
  clear hown hgr B1
  obtain ⟨A', c', rfl⟩ := owns_shape H1.out
  go_wp2
  go_end0
  exact ⟨rfl, _, w1, H3.out.set_ 2 _, H1.out, H2.out, rfl⟩
end Go.Proofs.Ytlogdbbaefpapaa
