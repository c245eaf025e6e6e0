/-
  RawChanged: bytes of which one is changed have another sum.
-/
import Derived.Test.YtkjfhgaiakienaaDoorAlive
import Derived.Test.YtkjfhgaiakienaaDoorSumPlain
import Derived.Lib.Strings
import Derived.OpenShut
import Derived.Deep.RegionHeld3
namespace Go.Proofs.YtkjfhgaiakienaaDoor
open Go.RowKit

set_option maxRecDepth 100000 in
set_option maxHeartbeats 1000000 in
theorem rawChanged_no (s : ByteArray) (at_ by_ : Int) (w : World) (hL : Laid w) (hs : s.size ≤ 140737488351232) (h : s.size = 0 ∨ 3000 < s.size ∨ by_ % 256 = 0) :
    Calls Tryd.prog 8 #[.string s, .int .i64 at_, .int .i64 by_] w fun e w' => e = .returned (.bool true) ∧ Below w.heap.size w w' := by
  by_cases h0 : s.size = 0
  · have h0' : ((s.size : Int) == 0) = true := by simp [h0]
    clear h h0
    go_enter Tryd.func8, Tryd.ntmps8
    go_wp2_with fail
    refine (alive_any w hL).mono ?_
    rintro e w1 ⟨rfl, hb1⟩
    go_wp2_with fail
    go_ret
    exact ⟨rfl, hb1⟩
  have h0' : ((s.size : Int) == 0) = false := by simp [h0]
  by_cases h1 : 3000 < s.size
  · clear h h0
    go_enter Tryd.func8, Tryd.ntmps8
    go_wp2_with fail
    refine (alive_any w hL).mono ?_
    rintro e w1 ⟨rfl, hb1⟩
    go_wp2_with fail
    go_ret
    exact ⟨rfl, hb1⟩
  have h2 : by_ % 256 = 0 := by rcases h with h | h | h; exact absurd h h0; exact absurd h h1; exact h
  clear h h0
  go_enter Tryd.func8, Tryd.ntmps8
  go_wp2_with fail
  refine (alive_any w hL).mono ?_
  rintro e w1 ⟨rfl, hb1⟩
  go_wp2_with fail
  go_ret
  exact ⟨rfl, hb1⟩

theorem bytes_of_obj {w : World} {g n cap : Nat} {cs : Array Value} {t : TypeId} {fr : Nat × Nat} {l : List UInt8} (ho : w.heap[g]? = some (.cells cs t fr)) (hn : n = l.length) (hl : ∀ j (hj : j < l.length), cs[j]? = some (b8 l[j])) :
    (convert 42 9 (.slice (some ⟨g, 0, none⟩) n cap)).run Tryd.prog w = .ok (.string ⟨l.toArray⟩) w := by
  subst hn
  refine run_convert_bytes_back w 42 9 5 ⟨g, 0, none⟩ cap l Tryd.underlying42 Tryd.underlying5 Tryd.underlying9 fun j hj => ?_
  have := cell_of_row w g j cs t fr ho
  have e : ({ block := g, off := 0, spot := none } : Addr).add j = ⟨g, j, none⟩ := by simp [Addr.add]; intro h; exact h.symm
  rw [e, this, hl j hj]
  rfl

/-- What stays while the law's last line runs: the changed bytes' block, the tables, all that was there. -/
structure ChS (w : World) (obj : Obj) (w' : World) : Prop where
  o : w'.heap[w.heap.size]? = some obj
  L : Laid w'
  B : Below w.heap.size w w'
  lt : w.heap.size < w'.heap.size
theorem ChS.drew {w w' : World} {obj : Obj} (h : ChS w obj w') : ChS w obj w'.drew := ⟨h.o, h.L.on (Below.refl _ _).drew, h.B.drew, h.lt⟩
theorem ChS.on {w w' w5 : World} {obj : Obj} (h : ChS w obj w') (h0 : Below w'.heap.size w' w5) : ChS w obj w5 :=
  ⟨(h0.block _ h.lt).trans h.o, h.L.on h0, h.B.trans (h0.mono h.B.size), Nat.lt_of_lt_of_le h.lt h0.size⟩

theorem held_B {w wx : World} {obj : Obj} {C : Prop} (h : ChS w obj wx ∧ C) : Below w.heap.size w wx := h.1.B
theorem alive_held {w wx : World} {obj : Obj} {C : Prop} (h : ChS w obj wx ∧ C) : Calls Tryd.prog 19 #[] wx fun e w5 => e = .returned (.bool true) ∧ ChS w obj w5 :=
  (alive_any wx h.1.L).mono fun _ _ ⟨he, hb⟩ => ⟨he, h.1.on hb⟩
theorem sum_held {w wx : World} {obj : Obj} {C : Prop} (s : ByteArray) (hs : s.size ≤ 9223372036854775807) (r : Nat) (hr : Hid (crc s.data.toList = r)) (h : ChS w obj wx ∧ C) :
    Calls Tryd.prog 26 #[.string s] wx fun e w' => e = .returned (.int .i64 (r : Int)) ∧ ChS w obj w' :=
  (sum_any s wx hs h.1.L.halves).mono fun _ _ ⟨he, hw⟩ => ⟨by rw [he, hr.out], hw ▸ h.1⟩

set_option maxRecDepth 100000 in
set_option maxHeartbeats 1000000 in
theorem rawChanged_yes (s : ByteArray) (at_ by_ : Int) (w : World) (hL : Laid w) (hs : s.size ≤ 3000) (m : Nat) (hm : m < s.size) (hby : by_ % 256 ≠ 0) (k0 : Int) (htm : at_.tmod (s.size : Int) = k0) (hk : k0 = (m : Int) ∨ k0 = (m : Int) - (s.size : Int)) :
    Calls Tryd.prog 8 #[.string s, .int .i64 at_, .int .i64 by_] w fun e w' => e = .returned (.bool true) ∧ Below w.heap.size w w' := by
  obtain ⟨c, hc⟩ : ∃ c : UInt8, c = UInt8.ofNat (s[m].toNat ^^^ (by_ % 256).toNat) := ⟨_, rfl⟩
  have hx : bits .xor .u8 ((s[m]'hm).toNat : Int) (by_ % 256) = (c.toNat : Int) := by
    have h1 := u8_xor (s[m].toNat) (UInt8.toNat_lt _) (by_ % 256).toNat (by omega)
    rw [Int.toNat_of_nonneg (by omega)] at h1
    rw [h1, hc, ← u8_of]
    exact Nat.xor_lt_two_pow (n := 8) (UInt8.toNat_lt _) (by omega)
  have hne : s[m] ≠ c := by
    intro e
    have h1 := congrArg UInt8.toNat e
    rw [hc, UInt8.toNat_ofNat', Nat.mod_eq_of_lt (Nat.xor_lt_two_pow (n := 8) (UInt8.toNat_lt _) (by omega))] at h1
    have h2 := xor_cancel 0 (by_ % 256).toNat s[m].toNat (by rw [Nat.zero_xor, Nat.xor_comm]; exact h1)
    omega
  have hcr := crc_changed s.data.toList m (by simpa using hm) c hne
  obtain ⟨l, hl⟩ : ∃ l, l = s.data.toList.set m c := ⟨_, rfl⟩
  rw [← hl] at hcr
  have hll : l.length = s.size := by rw [hl, List.length_set]; rfl
  have hcr0 : crc s.data.toList < 4294967296 := by unfold crc; omega
  have htsz : (⟨l.toArray⟩ : ByteArray).size ≤ 9223372036854775807 := by simp [ByteArray.size]; omega
  obtain ⟨r1, hr1⟩ : ∃ r, crc s.data.toList = r := ⟨_, rfl⟩
  obtain ⟨r2, hr2⟩ : ∃ r, crc (⟨l.toArray⟩ : ByteArray).data.toList = r := ⟨_, rfl⟩
  rw [show crc l = r2 from hr2, hr1] at hcr
  rw [hr1] at hcr0
  have Hr1 := Lib.hid hr1
  have Hr2 := Lib.hid hr2
  clear hr1 hr2
  have hr12 : ((r1 : Int) != (r2 : Int)) = true := by rw [bne_iff_ne]; omega
  have hbs := run_bytes_of_string (P := Tryd.prog) w 9 42 5 s Tryd.underlying9 Tryd.underlying42 Tryd.underlying5
  generalize grownCap w s.size 0 5 = cap at hbs
  have hrow : ∀ j (hj : j < s.size), (bytesRow s cap)[j]? = some (.int .u8 ((s[j]'hj).toNat : Int)) := fun j hj => bytesRow_at s cap j hj
  have hrsz : s.size ≤ (bytesRow s cap).size := by unfold bytesRow; rw [Array.size_append, Array.size_map]; exact Nat.le_add_right _ _
  generalize bytesRow s cap = row at *
  have hcell : (w.alloc (.cells row 5 (row.size, row.size + 1))).cell? ⟨w.heap.size, m, none⟩ = some (.int .u8 ((s[m]'hm).toNat : Int)) := (World.cell?_alloc_mark w row 5 (row.size, row.size + 1) m).trans (hrow m hm)
  have hfr : (w.alloc (.cells row 5 (row.size, row.size + 1))).frozen? ⟨w.heap.size, m, none⟩ = false := by
    rw [World.frozen?_alloc_mark, decide_eq_false (by omega)]; rfl
  have h0' : ((s.size : Int) == 0) = false := by rw [beq_eq_false_iff_ne]; omega
  have hb' : (by_ % 256 == 0) = false := by simp [hby]
  have HL := Lib.hid hL
  have Hrow := Lib.hid hrow
  have Hl := Lib.hid hl
  have Hll := Lib.hid hll
  have Hne := Lib.hid hcr
  have Hc := Lib.hid hc
  clear hL hby hrow hl hll hcr hc hne
  rcases hk with rfl | rfl
  all_goals
    go_enter Tryd.func8, Tryd.ntmps8
    go_wp2_with fail
    have hobj := obj_set (heap_alloc_new w (.cells row 5 (row.size, row.size + 1))) m (.int .u8 (c.toNat : Int))
    have hb1 : Below w.heap.size w ((w.alloc (.cells row 5 (row.size, row.size + 1))).setCell ⟨w.heap.size, m, none⟩ (.int .u8 (c.toNat : Int))) := below_setCell (below_alloc (Below.refl _ _) (Nat.le_refl _) _) (Nat.le_refl _) _
    generalize (w.alloc (.cells row 5 (row.size, row.size + 1))).setCell ⟨w.heap.size, m, none⟩ (.int .u8 (c.toNat : Int)) = w1 at *
    have hcb : ∀ j (hj : j < l.length), (row.setIfInBounds m (.int .u8 (c.toNat : Int)))[j]? = some (b8 l[j]) := by
      intro j hj
      have hjs : j < s.size := by rw [← Hll.out]; exact hj
      rw [Array.getElem?_setIfInBounds]
      have hlj : l[j]? = some l[j] := List.getElem?_eq_getElem hj
      have hl2 : l[j]? = if m = j then some c else s.data.toList[j]? := by
        rw [Hl.out, List.getElem?_set]
        split
        · rw [if_pos (by simpa using hm)]
        · rfl
      by_cases e : m = j
      · subst e
        rw [if_pos rfl] at hl2
        rw [if_pos rfl, if_pos (by omega)]
        rw [hlj] at hl2
        rw [Option.some.inj hl2]
        rfl
      · rw [if_neg e] at hl2
        rw [if_neg e, Hrow.out j hjs]
        rw [hlj, List.getElem?_eq_getElem (by simpa using hjs)] at hl2
        rw [Option.some.inj hl2]
        rfl
    have keep : ∀ w', w'.heap[w.heap.size]? = some (.cells (row.setIfInBounds m (.int .u8 (c.toNat : Int))) 5 (row.size, row.size + 1)) → (convert 42 9 (.slice (some ⟨w.heap.size, 0, none⟩) s.size cap)).run Tryd.prog w' = .ok (.string ⟨l.toArray⟩) w' := fun w' h => bytes_of_obj h Hll.out.symm hcb
    have S1 : ChS w (.cells (row.setIfInBounds m (.int .u8 (c.toNat : Int))) 5 (row.size, row.size + 1)) w1.drew := by
      refine ⟨hobj, HL.out.on hb1.drew, hb1.drew, ?_⟩
      rcases Nat.lt_or_ge w.heap.size w1.drew.heap.size with h | h
      · exact h
      · have O1 : w1.drew.heap[w.heap.size]? = some (.cells (row.setIfInBounds m (.int .u8 (c.toNat : Int))) 5 (row.size, row.size + 1)) := hobj
        rw [Array.getElem?_eq_none h] at O1; cases O1
    clear hcb hcell hfr hbs hobj hb1
    generalize w1.drew = w2 at *
    generalize Obj.cells (row.setIfInBounds m (.int .u8 (c.toNat : Int))) 5 (row.size, row.size + 1) = obj at *
    have Keep : Hid (∀ w', ChS w obj w' → ChS w obj w' ∧ (convert 42 9 (.slice (some ⟨w.heap.size, 0, none⟩) s.size cap)).run Tryd.prog w' = .ok (.string ⟨l.toArray⟩) w') := fun w' h => ⟨h, keep w' h.o⟩
    clear keep
    go_region_held3 (fun w' => ChS w obj w' ∧ (convert 42 9 (.slice (some ⟨w.heap.size, 0, none⟩) s.size cap)).run Tryd.prog w' = .ok (.string ⟨l.toArray⟩) w')
      (first | exact Keep.out _ S1.drew | exact Keep.out _ (by assumption))
      (first
        | (go_at_call 19; refine (alive_held (by assumption)).mono ?_; rintro e w5 ⟨rfl, S5⟩)
        | (go_at_call_of 26 (Value.string s); refine (sum_held s (by omega) r1 Hr1 (by assumption)).mono ?_; rintro e w5 ⟨rfl, S5⟩)
        | (go_at_call 26; refine (sum_held _ htsz r2 Hr2 (by assumption)).mono ?_; rintro e w5 ⟨rfl, S5⟩))
    go_wp2
    go_ret
    exact ⟨by rw [show (decide ((r1 : Int) < 4294967296)) = true from decide_eq_true (by omega)]; rfl, held_B (by assumption)⟩

theorem lawRawChanged (s : ByteArray) (hs : s.size ≤ 140737488351232) (at_ : Int) (_ha : (Lit.int .i64 at_).wf = true) (by_ : Int) (_hb : (Lit.int .i64 by_).wf = true) (w : World) (hL : Laid w) :
    Calls Tryd.prog 8 #[.string s, .int .i64 at_, .int .i64 by_] w fun e w' => e = .returned (.bool true) ∧ Below w.heap.size w w' := by
  by_cases h : s.size = 0 ∨ 3000 < s.size ∨ by_ % 256 = 0
  · exact rawChanged_no s at_ by_ w hL hs h
  · have hpos : (0 : Int) < (s.size : Int) := by omega
    have h1 := Int.tmod_lt_of_pos at_ hpos
    have h2 := Int.lt_tmod_of_pos at_ hpos
    by_cases hk : 0 ≤ at_.tmod (s.size : Int)
    · exact rawChanged_yes s at_ by_ w hL (by omega) (at_.tmod (s.size : Int)).toNat (by omega) (by omega) _ rfl (.inl (by omega))
    · exact rawChanged_yes s at_ by_ w hL (by omega) (at_.tmod (s.size : Int) + s.size).toNat (by omega) (by omega) _ rfl (.inr (by omega))

end Go.Proofs.YtkjfhgaiakienaaDoor
