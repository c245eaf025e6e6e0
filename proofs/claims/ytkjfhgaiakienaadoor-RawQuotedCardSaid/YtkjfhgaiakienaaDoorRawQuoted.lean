/-
  RawQuoted: texts in quotes, one behind the other, are read one behind the other; no byte of them is outside of 32 to 126.
-/
import Derived.Test.YtkjfhgaiakienaaDoorAlive
import Derived.Test.YtkjfhgaiakienaaDoorRaw11
import Derived.Test.YtkjfhgaiakienaaDoorQuotePlain
import Derived.Test.YtkjfhgaiakienaaDoorView
import Derived.Lib.Strings
namespace Go.Proofs.YtkjfhgaiakienaaDoor
open Go.RowKit

set_option maxRecDepth 100000 in
set_option maxHeartbeats 1000000 in
theorem rawQuoted_long (A : Option Addr) (n cp : Nat) (w : World) (hL : Laid w) (h : 60 < n) :
    Calls Tryd.prog 6 #[.slice A n cp] w fun e w' => e = .returned (.bool true) ∧ Below w.heap.size w w' := by
  go_enter Tryd.func6, Tryd.ntmps6
  go_wp2_with fail
  refine (alive_any w hL).mono ?_
  rintro e w1 ⟨rfl, hb1⟩
  go_wp2_with fail
  go_ret
  exact ⟨rfl, hb1⟩

def catq (ss : List ByteArray) : List UInt8 := (ss.map fun s => quoteL s.data.toList).flatten
theorem catq_snoc (ss : List ByteArray) (k : Nat) (s : ByteArray) (hk : k < ss.length) (hz : ss.getD k ByteArray.empty = s) : catq (ss.take (k + 1)) = catq (ss.take k) ++ quoteL s.data.toList := by
  have e : ss[k] = s := by rw [← hz, List.getD_eq_getElem?_getD, List.getElem?_eq_getElem hk]; rfl
  unfold catq
  rw [List.take_succ_eq_append_getElem hk, List.map_append, List.flatten_append, e]
  simp
theorem catq_cons (ss : List ByteArray) (k : Nat) (s : ByteArray) (hk : k < ss.length) (hz : ss.getD k ByteArray.empty = s) : catq (ss.drop k) = quoteL s.data.toList ++ catq (ss.drop (k + 1)) := by
  have e : ss[k] = s := by rw [← hz, List.getD_eq_getElem?_getD, List.getElem?_eq_getElem hk]; rfl
  unfold catq
  rw [List.drop_eq_getElem_cons hk, List.map_cons, List.flatten_cons, e]
theorem catq_plain (ss : List ByteArray) : ∀ d ∈ catq ss, 32 ≤ d.toNat ∧ d.toNat ≤ 126 := by
  intro d hd
  unfold catq at hd
  rw [List.mem_flatten] at hd
  obtain ⟨l, hl, hd⟩ := hd
  obtain ⟨s, _, rfl⟩ := List.mem_map.1 hl
  exact quote_plain _ d hd

set_option maxRecDepth 100000 in
set_option maxHeartbeats 2000000 in
theorem rawQuoted_short (A : Option Addr) (n cp : Nat) (ss : List ByteArray) (w : World) (hL : Laid w) (hI : StrsIn w A n ss) (h : n ≤ 60) :
    Calls Tryd.prog 6 #[.slice A n cp] w fun e w' => e = .returned (.bool true) ∧ Below w.heap.size w w' := by
  have HL := Lib.hid hL
  have HI := Lib.hid hI
  clear hL hI
  go_enter Tryd.func6, Tryd.ntmps6
  go_wp2_with fail
  go_loopw [3, 4] (fun s i wr => ∃ (k : Nat) (b : ByteArray), k ≤ n ∧ i = .int .i64 (k : Int) ∧ s = .string b ∧ b.size ≤ 1202 * k ∧ Hid (b.data.toList = catq (ss.take k)) ∧ Below w.heap.size w wr)
    (fun _ i _ => n - (intOf i).toNat)
  case atStart => exact ⟨0, _, by omega, rfl, rfl, Nat.zero_le _, rfl, Below.refl _ _⟩
  case round =>
    obtain ⟨k, b, hk, rfl, rfl, hbs, Hb, hbe⟩ := hrel
    by_cases hl : k < n
    · obtain ⟨bb, off, rfl, hlt, hc⟩ := (HI.out.below hbe).some (by omega)
      have hck := hc k hl
      obtain ⟨z, hz⟩ : ∃ z, ss.getD k ByteArray.empty = z := ⟨_, rfl⟩
      have hzs : z.size ≤ 9223372036854775807 := HI.out.size z (by rw [← hz, List.getD_eq_getElem?_getD, List.getElem?_eq_getElem (by rw [HI.out.len]; exact hl)]; exact List.getElem_mem _)
      rw [hz] at hck
      have Hz := Lib.hid hz
      clear hc hz
      by_cases hn : 300 < z.size
      · have L1 := HL.out.on hbe
        go_wp2_with fail
        refine (alive_any wr L1).mono ?_
        rintro e w1 ⟨rfl, hb1⟩
        go_wp2_with fail
        go_ret
        exact ⟨rfl, hbe.trans (hb1.mono hbe.size)⟩
      · have hlz : k < ss.length := by rw [HI.out.len]; exact hl
        have hql := quote_len z.data.toList
        rw [show z.data.toList.length = z.size from rfl] at hql
        obtain ⟨p, hp⟩ : ∃ p : ByteArray, p = ⟨(quoteL z.data.toList).toArray⟩ := ⟨_, rfl⟩
        have hps : p.size ≤ 1202 := by rw [hp, size_mk]; omega
        have Hp := Lib.hid hp
        clear hp hql
        go_wp2_with fail
        refine (quote_any z wr (by omega)).mono ?_
        rw [← Hp.out]
        rintro e w1 ⟨rfl, hb1⟩
        go_wp2_with fail
        go_roundw
        case rel =>
          refine ⟨k + 1, b ++ p, by omega, by go_num, rfl, by rw [ByteArray.size_append]; omega, ?_, hbe.trans (hb1.mono hbe.size)⟩
          show _ = _
          rw [catq_snoc ss k z hlz Hz.out, ← Hb.out, Hp.out]
          simp [ByteArray.data_append]
        case measure => simp [intOf]; omega
    · obtain rfl : k = n := by omega
      have hcat : b.data.toList = catq ss := by
        have := Hb.out
        rwa [List.take_of_length_le (by rw [HI.out.len]; exact Nat.le_refl _)] at this
      have Hcat := Lib.hid hcat
      clear hcat
      go_wp2_with fail
      go_loop [5] (fun i => ∃ j : Nat, j ≤ b.size ∧ i = .int .i64 (j : Int)) (fun i => b.size - (intOf i).toNat)
      case atStart => exact ⟨0, by omega, rfl⟩
      case round =>
        obtain ⟨j, hj, rfl⟩ := hrel
        by_cases hl2 : j < b.size
        · have hpl := catq_plain ss b[j] (by rw [← Hcat.out]; exact List.getElem_mem (by simpa using hl2))
          have hp1 : (32 : Int) ≤ (b[j].toNat : Int) := by omega
          have hp2 : (b[j].toNat : Int) ≤ 126 := by omega
          clear hpl
          go_wp2_with fail
          go_round
          case rel => exact ⟨j + 1, by omega, by go_num⟩
          case measure => simp [intOf]; omega
        · obtain rfl : j = b.size := by omega
          go_wp2_with fail
          go_loopw [3, 6] (fun s i wr => ∃ (j : Nat) (c : ByteArray), j ≤ k ∧ i = .int .i64 (j : Int) ∧ s = .string c ∧ c.size ≤ 100000 ∧ Hid (c.data.toList = catq (ss.drop j)) ∧ Below w.heap.size w wr)
            (fun _ i _ => k - (intOf i).toNat)
          case atStart => exact ⟨0, b, by omega, rfl, rfl, by omega, Hcat, hbe⟩
          case round =>
            obtain ⟨j, c, hj, rfl, rfl, hcs, Hc, hbe2⟩ := hrel
            by_cases hl2 : j < k
            · obtain ⟨bb, off, rfl, hlt, hc⟩ := (HI.out.below hbe2).some (by omega)
              have hlz : j < ss.length := by rw [HI.out.len]; exact hl2
              have hck := hc j hl2
              obtain ⟨z, hz⟩ : ∃ z, ss.getD j ByteArray.empty = z := ⟨_, rfl⟩
              rw [hz] at hck
              have hcc := catq_cons ss j z hlz hz
              have hq2 := (quote_len z.data.toList).1
              have hgv : unq c.data.toList = some (z.data.toList, (quoteL z.data.toList).length) := by rw [Hc.out, hcc, unq_quote]
              have hlen : (quoteL z.data.toList).length + (catq (ss.drop (j + 1))).length = c.size := by
                have h1 := congrArg List.length Hc.out
                rw [hcc, List.length_append] at h1
                have h2 : c.data.toList.length = c.size := by simp
                omega
              have hce : (c.extract (quoteL z.data.toList).length c.size).data.toList = catq (ss.drop (j + 1)) := by
                rw [Lib.extract_data, Hc.out, hcc, List.drop_left' rfl]
                rw [List.take_of_length_le]
                omega
              have hqs : (quoteL z.data.toList).length ≤ c.size := by omega
              have Hgv := Lib.hid hgv
              have Hce := Lib.hid hce
              clear hc hz hgv hce hcc hlen
              obtain ⟨q, hq⟩ : ∃ q, q = (quoteL z.data.toList).length := ⟨_, rfl⟩
              rw [← hq] at hq2 hqs Hgv Hce
              clear hq
              have hzz : (⟨z.data.toList.toArray⟩ : ByteArray) = z := by cases z; simp
              have U := unquote_ok c z.data.toList q wr (by omega) Hgv.out
              rw [hzz] at U
              have UU := Lib.hid U
              clear hzz U
              go_wp2_with fail
              refine UU.out.mono ?_
              rintro e w1 ⟨rfl, hb1⟩
              have h3 := (hb1.cell (p := ⟨bb, off + j, none⟩) hlt).trans hck
              go_wp2_with fail
              go_roundw
              case rel => exact ⟨j + 1, _, by omega, by go_num, rfl, by simp; omega, Hce, hbe2.trans (hb1.mono hbe2.size)⟩
              case measure => simp [intOf]; omega
            · obtain rfl : j = k := by omega
              have hce : c.toList = [] := by
                rw [Lib.toList_data, Hc.out, List.drop_of_length_le (by rw [HI.out.len]; exact Nat.le_refl _)]
                rfl
              have L1 := HL.out.on hbe2
              go_wp2_with fail
              refine (alive_any wr L1).mono ?_
              rintro e w1 ⟨rfl, hb1⟩
              go_wp2_with fail
              go_ret
              exact ⟨rfl, hbe2.trans (hb1.mono hbe2.size)⟩

theorem lawRawQuoted (A : Option Addr) (n cp : Nat) (ss : List ByteArray) (w : World) (hI : StrsIn w A n ss) (hL : Laid w) :
    Calls Tryd.prog 6 #[.slice A n cp] w fun e w' => e = .returned (.bool true) ∧ Below w.heap.size w w' := by
  by_cases h : 60 < n
  · exact rawQuoted_long A n cp w hL h
  · exact rawQuoted_short A n cp ss w hL hI (by omega)
end Go.Proofs.YtkjfhgaiakienaaDoor
