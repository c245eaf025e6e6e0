/-
  Walks over package vec, part 1: Leq, Same, isCount, Valid.
-/
import Derived.Test.YthjphiniljopgaaDoorRows
import Derived.Test.YthjphiniljopgaaDoorLib
import Derived.Test.YthjphiniljopgaaDoorView
import Derived.Deep.QuietTactic
import Derived.BigQuiet
namespace Go.Proofs.YthjphiniljopgaaDoor
open Go.RowKit

/-- Is no time of xs above that of ys? -/
def leqL (xs ys : List Int) : Bool := decide (xs.length = ys.length ∧ ∀ j, j < xs.length → xs.getD j 0 ≤ ys.getD j 0)

theorem IntsIn.drewN {w : World} {A : Option Addr} {n : Nat} {zs : List Int} (h : IntsIn w A n zs) (q : Nat) : IntsIn (w.drewN q) A n zs := ⟨h.len, h.max, h.some, h.wf⟩
theorem drewN_zero (w : World) : w = w.drewN 0 := rfl
theorem drewN_more {w w1 : World} {q : Nat} (h : w1 = w.drewN q) (p : Nat) : ∃ r, w1.drewN p = w.drewN r := ⟨q + p, by rw [h, World.drewN_drewN]⟩

theorem list_ext_getD {xs ys : List Int} (h : xs.length = ys.length) (he : ∀ j, j < xs.length → xs.getD j 0 = ys.getD j 0) : xs = ys := by
  refine List.ext_getElem h fun j h1 h2 => ?_
  have := he j h1
  rwa [List.getD_eq_getElem?_getD, List.getD_eq_getElem?_getD, List.getElem?_eq_getElem h1, List.getElem?_eq_getElem h2] at this

theorem isCount_any (z : Int) (w : World) :
    Calls Tryd.prog 31 #[.int .i64 z] w fun e w' => e = .returned (.bool (decide (1 ≤ z ∧ z ≤ 8))) ∧ w = w' := by
  by_cases h1 : 1 ≤ z
  · have h1' : decide (1 ≤ z) = true := decide_eq_true h1
    have e : decide (1 ≤ z ∧ z ≤ 8) = decide (z ≤ 8) := by simp [h1]
    rw [e]
    go_enter Tryd.func31, Tryd.ntmps31
    go_wp2
    go_ret
    exact ⟨rfl, rfl⟩
  · have e : decide (1 ≤ z ∧ z ≤ 8) = false := by simp [h1]
    rw [e]
    go_enter Tryd.func31, Tryd.ntmps31
    go_wp2
    go_ret
    exact ⟨rfl, rfl⟩

/-- Is it a vector? -/
def validL (xs : List Int) : Bool := decide ((1 ≤ xs.length ∧ xs.length ≤ 8) ∧ ∀ j, j < xs.length → 0 ≤ xs.getD j 0 ∧ xs.getD j 0 < 281474976710656)

set_option maxRecDepth 100000 in
set_option maxHeartbeats 1000000 in
theorem valid_any (A : Option Addr) (n c : Nat) (xs : List Int) (w : World) (I : IntsIn w A n xs) :
    Calls Tryd.prog 19 #[.slice A n c] w fun e w' => e = .returned (.bool (validL xs)) ∧ w = w' := by
  have J := Lib.hid I
  have l := I.len
  have m := I.max
  clear I
  by_cases hn : 1 ≤ (n : Int) ∧ (n : Int) ≤ 8
  · have hd : decide (1 ≤ (n : Int) ∧ (n : Int) ≤ 8) = true := decide_eq_true hn
    go_enter Tryd.func19, Tryd.ntmps19
    go_wp2_with fail
    refine (isCount_any n w).mono ?_
    rw [hd]
    rintro e w' ⟨rfl, rfl⟩
    clear hd
    go_wp2_with fail
    go_loop [11] (fun i => ∃ k : Nat, k ≤ n ∧ i = .int .i64 (k : Int) ∧ Hid (∀ j, j < k → 0 ≤ xs.getD j 0 ∧ xs.getD j 0 < 281474976710656)) (fun i => n - (intOf i).toNat)
    case atStart => exact ⟨0, by omega, rfl, fun j hj => absurd hj (by omega)⟩
    case round =>
      obtain ⟨k, hk, rfl, Hle⟩ := hrel
      by_cases hl : k < n
      · obtain ⟨b, o, rfl, _, hc⟩ := J.out.some (by omega)
        have d := hc k hl
        obtain ⟨x, hx⟩ : ∃ x, xs.getD k 0 = x := ⟨_, rfl⟩
        rw [hx] at d
        have Hx := Lib.hid hx
        have hl1 : (k : Int) < (n : Int) := by omega
        clear hc hx
        by_cases hg : 0 ≤ x ∧ x < 281474976710656
        · obtain ⟨g1, g2⟩ := hg
          go_wp2_with fail
          go_round
          case rel =>
            refine ⟨k + 1, by omega, by go_num, fun j hj => ?_⟩
            by_cases hjk : j = k
            · subst hjk; rw [Hx.out]; exact ⟨g1, g2⟩
            · exact Hle.out j (by omega)
          case measure => simp [intOf]; omega
        · have hf : validL xs = false := by
            unfold validL
            refine decide_eq_false fun h => hg ?_
            have := h.2 k (by omega)
            rwa [Hx.out] at this
          have Hf := Lib.hid hf
          clear hf
          by_cases hg1 : x < 0
          · go_wp2_with fail
            go_ret
            exact ⟨by rw [Hf.out]; rfl, rfl⟩
          · have hg2 : 281474976710656 ≤ x := by omega
            go_wp2_with fail
            go_ret
            exact ⟨by rw [Hf.out]; rfl, rfl⟩
      · obtain rfl : k = n := by omega
        have hf : validL xs = true := by
          unfold validL
          exact decide_eq_true ⟨⟨by omega, by omega⟩, fun j hj => Hle.out j (by omega)⟩
        have Hf := Lib.hid hf
        clear hf
        go_wp2_with fail
        go_ret
        exact ⟨by rw [Hf.out]; rfl, rfl⟩
  · have hd : decide (1 ≤ (n : Int) ∧ (n : Int) ≤ 8) = false := decide_eq_false hn
    have hf : validL xs = false := by
      unfold validL
      exact decide_eq_false fun h => hn ⟨by omega, by omega⟩
    rw [hf]
    go_enter Tryd.func19, Tryd.ntmps19
    go_wp2_with fail
    refine (isCount_any n w).mono ?_
    rw [hd]
    rintro e w' ⟨rfl, rfl⟩
    clear hd
    go_wp2_with fail
    go_ret
    exact ⟨rfl, rfl⟩
end Go.Proofs.YthjphiniljopgaaDoor
