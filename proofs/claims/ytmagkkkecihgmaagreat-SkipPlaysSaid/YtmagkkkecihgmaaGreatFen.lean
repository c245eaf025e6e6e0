/-
  A region that draws its order, in a round of a range over a function: it is walked as everywhere. No program is named.
-/
import Derived.RangeFuncFrom
import Derived.RangeFuncCalls
import Derived.Shelf.RegionOpen
import Derived.RegionTactic
import Derived.OwnWalkIn
namespace Go.Proofs.YtmagkkkecihgmaaGreat

theorem rowsIn_round {l n : Nat} {P : Program} {row : String} {args : Array Value} {w : World} {R : Value → World → Prop} (h : Rows P row args w R) : RowsIn (Fence.wide.inRound l) n P row args w R :=
  fun c cs _ => let ⟨v, w', r, s⟩ := h c cs; ⟨v, w', r, stepsIn_wide.2 s⟩
theorem callsIn_round {l n : Nat} {P : Program} {f : FuncId} {args : Array Value} {w : World} {R : Ending → World → Prop} (h : Calls P f args w R) : CallsIn (Fence.wide.inRound l) n P f args w R := CallsIn.inRound l (callsIn_wide.2 h)
/-- An operation that is no defer statement. -/
theorem wp_round {l n : Nat} {P : Program} {o : Oper} {a : Act} {w : World} {K : Act → World → Prop} {Q : Exit → Act → World → Prop} (hd : ∀ c, o.op ≠ .defer c) (h : o.wp P a w K Q) : o.wpIn (Fence.wide.inRound l) n P a w K Q := by
  unfold Oper.wpIn
  refine ⟨fun _ _ => trivial, ?_⟩
  rw [Oper.semAt_plain _ _ _ hd]
  unfold Oper.wp at h
  generalize (execOp a.eval o).run P w = r at *
  cases r with
  | ok x w' =>
    cases x <;> simp only [Oper.upon, Oper.uponIn] at h ⊢ <;>
      first
        | exact h
        | exact ⟨fun e => (by cases e), callsIn_round h⟩
        | exact ⟨fun e => (by cases e), rowsIn_round h⟩
  | halt x w' => cases x <;> simp only [Oper.upon, Oper.uponIn] at h ⊢ <;> exact h
/-- Each operation is no defer statement, and has no guard. -/
def plainB (ops : Array Oper) : Bool := ops.toList.all fun o => (match o.op with | .defer _ => false | _ => true) && o.guard.isNone
theorem plainB_at {ops : Array Oper} (h : plainB ops = true) {i : Nat} {o : Oper} (ho : ops[i]? = some o) : (∀ c, o.op ≠ .defer c) ∧ o.guard = none := by
  unfold plainB at h
  rw [List.all_eq_true] at h
  have h1 := h o (Array.mem_toList_iff.2 (Array.mem_of_getElem? ho))
  rw [Bool.and_eq_true] at h1
  refine ⟨fun c hc => ?_, Option.isNone_iff_eq_none.1 h1.2⟩
  rw [hc] at h1
  exact absurd h1.1 (by simp)
/-- The orders of a region. -/
theorem wpAny_round {l n : Nat} {P : Program} {md : Region.Mode} {ops : Array Oper} {Q : Exit → Act → World → Prop} (hB : plainB ops = true) (hQ : ¬ LetsOut Q) :
    ∀ (fuel : Nat) (listed : Array Bool) (a : Act) (w : World), wpAny P md ops Q fuel listed a w → wpAnyIn (Fence.wide.inRound l) n P md ops Q fuel listed a w
  | 0, _, _, _, h => h
  | fuel + 1, listed, a, w, h => by
    refine ⟨h.1, fun i hi => ?_⟩
    have h1 := h.2 i hi
    unfold wpOp at h1
    unfold wpOpIn
    cases ho : ops[i]? with
    | none =>
      rw [ho] at h1
      exact wpAny_round hB hQ fuel _ _ _ h1
    | some o =>
      rw [ho] at h1
      have hw : Region.wanted o (yielded ops a.tmps) = true := by simp [Region.wanted, (plainB_at hB ho).2]
      simp only [hw, if_true] at h1 ⊢
      rcases h1 with h1 | ⟨_, h1⟩
      · exact wp_round (plainB_at hB ho).1 (Oper.wp_mono (fun a' w' h' => wpAny_round hB hQ fuel _ a' w' h') h1)
      · exact absurd h1 hQ
end Go.Proofs.YtmagkkkecihgmaaGreat
