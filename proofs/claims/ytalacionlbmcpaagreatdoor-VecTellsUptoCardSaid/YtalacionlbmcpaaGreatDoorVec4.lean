/-
  Walks over package vec, part 4: Put, Text.
-/
import Derived.Test.YtalacionlbmcpaaGreatDoorVec2
import Derived.Test.YtalacionlbmcpaaGreatDoorBuild
import Derived.Test.YtalacionlbmcpaaGreatDoorRaw5
import Derived.Test.YtalacionlbmcpaaGreatDoorGlob
import Derived.Lib.Join
import Derived.Lib.ItoaLen
namespace Go.Proofs.YtalacionlbmcpaaGreatDoor
open Go.RowKit

theorem isB_below {B b B' : Nat} {bs : List Value} {w w' : World} (h : IsB B b bs w) (hb : Below B' w w') (hB : w.heap.size ≤ B') : IsB B b bs w' := by
  have key : ∀ p, Lib.BuilderAt 67 5 B b p bs w → Lib.BuilderAt 67 5 B b p bs w' := by
    rintro p hh
    have hlt := hh.lt
    obtain ⟨h1, v, h2, h3, h4⟩ := hh
    refine ⟨h1, v, (hb.block b (by omega)).trans h2, ⟨h3.1, ?_⟩, h4⟩
    rcases h3.2 with hn | ⟨g, cap, cur, hv, hg, hh, r⟩
    · exact Or.inl hn
    · exact Or.inr ⟨g, cap, cur, hv, hg, (hb.block g (Nat.lt_of_lt_of_le (Array.getElem?_eq_some_iff.1 hh).1 hB)).trans hh, r⟩
  exact h.elim (fun x => Or.inl (key _ x)) (fun x => Or.inr (key _ x))

/-- A vector's bytes. -/
def vecB (xs : List Int) : List UInt8 := UInt8.ofNat xs.length :: (xs.map fun z => be z.toNat 6).flatten

theorem vecB_step (xs : List Int) (k : Nat) (hk : k < xs.length) :
    UInt8.ofNat xs.length :: ((xs.take (k + 1)).map fun z => be z.toNat 6).flatten = (UInt8.ofNat xs.length :: ((xs.take k).map fun z => be z.toNat 6).flatten) ++ be (xs.getD k 0).toNat 6 := by
  have e : xs.getD k 0 = xs[k] := by rw [List.getD_eq_getElem?_getD, List.getElem?_eq_getElem hk]; rfl
  rw [e, List.take_succ_eq_append_getElem hk, List.map_append, List.flatten_append]
  simp

theorem validL_of {xs : List Int} (h : validL xs = true) : (1 ≤ xs.length ∧ xs.length ≤ 8) ∧ ∀ j, j < xs.length → 0 ≤ xs.getD j 0 ∧ xs.getD j 0 < 281474976710656 := of_decide_eq_true h

set_option maxRecDepth 100000 in
set_option maxHeartbeats 1000000 in
theorem vput_bad (A : Option Addr) (n c : Nat) (xs : List Int) (w : World) (I : IntsIn w A n xs) (h : validL xs = false) :
    Calls Tryz.prog 13 #[.slice A n c] w fun e w' => e = .returned (.tuple #[.string ByteArray.empty, .int .i64 1]) ∧ w = w' := by
  have V := Lib.hid (valid_any A n c xs w I)
  have H := Lib.hid h
  clear I h
  go_enter Tryz.func13, Tryz.ntmps13
  go_wp2_with fail
  refine V.out.mono ?_
  rw [H.out]
  rintro e w' ⟨rfl, rfl⟩
  go_wp2_with fail
  go_ret2
  exact ⟨rfl, rfl⟩

set_option maxRecDepth 100000 in
set_option maxHeartbeats 2000000 in
theorem vput_ok (A : Option Addr) (n c : Nat) (xs : List Int) (w : World) (I : IntsIn w A n xs) (h : validL xs = true) :
    Calls Tryz.prog 13 #[.slice A n c] w fun e w' => e = .returned (.tuple #[.string ⟨(vecB xs).toArray⟩, .int .i64 0]) ∧ Below w.heap.size w w' := by
  have V := Lib.hid (valid_any A n c xs w I)
  obtain ⟨⟨h1, h8⟩, hall⟩ := validL_of h
  have J := Lib.hid I
  have l := I.len
  have H := Lib.hid h
  have Hall := Lib.hid hall
  clear I h hall
  rw [l] at h1 h8
  have hm : Hid ((n : Int) = ((UInt8.ofNat n).toNat : Int)) := u8_of n (by omega)
  go_enter Tryz.func13, Tryz.ntmps13
  go_wp2_with fail
  refine V.out.mono ?_
  rw [H.out]
  rintro e w' ⟨rfl, rfl⟩
  go_wp2_with fail
  have b0 : IsB w.heap.size w.heap.size (Lib.byteCells []) (w.alloc (.cells #[.pointer none, .slice none 0 0] 67)) :=
    Or.inl ⟨Nat.le_refl _, _, heap_alloc_new w _, World.ownsRow_nil _ _ _ _, by simp [Value.ownBlock]⟩
  have hb0 : Below w.heap.size w (w.alloc (.cells #[.pointer none, .slice none 0 0] 67)) := below_alloc (Below.refl _ _) (Nat.le_refl _) _
  generalize w.alloc (.cells #[.pointer none, .slice none 0 0] 67) = w0 at *
  refine (bbyte_any w.heap.size w.heap.size _ _ w0 b0 (by simp [Lib.byteCells]) hb0.size).mono ?_
  rintro e w1 ⟨rfl, b1, hb1⟩
  have b1' : IsB w.heap.size w.heap.size (Lib.byteCells (UInt8.ofNat xs.length :: ((xs.take 0).map fun z => be z.toNat 6).flatten)) w1 := by
    have e : Lib.byteCells [] ++ [Value.int .u8 ((UInt8.ofNat n).toNat : Int)] = Lib.byteCells (UInt8.ofNat xs.length :: ((xs.take 0).map fun z => be z.toNat 6).flatten) := by
      rw [l]; simp [Lib.byteCells]
    rw [← e]
    rw [← hm.out]
    exact b1
  have B1 := Lib.hid b1'
  have hbe := hb0.trans hb1
  clear b0 b1 b1' hb0 hb1
  go_wp2_with fail
  go_loopw [18] (fun i wr => ∃ k : Nat, k ≤ n ∧ i = .int .i64 (k : Int) ∧ IsB w.heap.size w.heap.size (Lib.byteCells (UInt8.ofNat xs.length :: ((xs.take k).map fun z => be z.toNat 6).flatten)) wr ∧ Below w.heap.size w wr)
    (fun i _ => n - (intOf i).toNat)
  case atStart => exact ⟨0, by omega, rfl, B1.out, hbe⟩
  case round =>
    obtain ⟨k, hk, rfl, hB, hbe⟩ := hrel
    have HB := Lib.hid hB
    clear hB
    have hlen : (((xs.take k).map fun z => be z.toNat 6).flatten).length = 6 * k := by
      have : ∀ (zs : List Int), ((zs.map fun z => be z.toNat 6).flatten).length = 6 * zs.length := by
        intro zs
        induction zs with
        | nil => rfl
        | cons z r ih => rw [List.map_cons, List.flatten_cons, List.length_append, ih, be_length, List.length_cons]; omega
      rw [this, List.length_take, l]
      omega
    have Hlen := Lib.hid hlen
    clear hlen
    by_cases hl : k < n
    · obtain ⟨b, o, rfl, hlt, hc⟩ := (J.out.below hbe).some (by omega)
      have d := hc k hl
      have hx2 := Hall.out k (by omega)
      have hst := vecB_step xs k (by omega)
      obtain ⟨x, hx⟩ : ∃ x, xs.getD k 0 = x := ⟨_, rfl⟩
      rw [hx] at d hx2 hst
      obtain ⟨u, rfl⟩ := Int.eq_ofNat_of_zero_le hx2.1
      rw [Int.toNat_natCast] at hst
      have Hst := Lib.hid hst
      have hu : u < 2 ^ (8 * 6) := by omega
      have Hu := Lib.hid hu
      have hl1 : (k : Int) < (n : Int) := by omega
      clear hc hx hst hu hx2
      go_wp2_with fail
      refine (put_ok u 6 wr (by decide) (by decide) Hu.out).mono ?_
      rintro e w2 ⟨rfl, hb2⟩
      have hB2 := isB_below HB.out hb2 (Nat.le_refl _)
      go_wp2_with fail
      refine (bstr_any w.heap.size w.heap.size _ _ w2 hB2 (by rw [Lib.byteCells_length, List.length_cons, Hlen.out, size_mk, be_length]; omega) (Nat.le_trans hbe.size hb2.size)).mono ?_
      rintro e w3 ⟨rfl, hB3, hb3⟩
      have HB3 := Lib.hid hB3
      clear hB3 hB2
      go_wp2_with fail
      go_roundw
      case rel =>
        refine ⟨k + 1, by omega, by go_num, ?_, (hbe.trans (hb2.mono hbe.size)).trans hb3⟩
        rw [Hst.out]
        have := HB3.out
        unfold Lib.strCells at this
        unfold Lib.byteCells at this ⊢
        rw [List.map_append]
        exact this
      case measure => simp [intOf]; omega
    · obtain rfl : k = n := by omega
      have hfin : (UInt8.ofNat xs.length :: ((xs.take k).map fun z => be z.toNat 6).flatten) = vecB xs := by
        rw [List.take_of_length_le (by omega)]; rfl
      have HB2 := HB.out
      rw [hfin] at HB2
      have HB3 := Lib.hid HB2
      clear HB2 hfin
      go_wp2_with fail
      refine (Tryz.Builder_String_any w.heap.size w.heap.size (vecB xs) wr HB3.out hbe.size).mono ?_
      rintro e w2 ⟨rfl, hb2⟩
      go_wp2_with fail
      go_ret2
      exact ⟨rfl, hbe.trans hb2⟩

/-- A vector's text. -/
def textL (xs : List Int) : List UInt8 := 91 :: (Lib.join (xs.map Lib.itoa) [44] ++ [93])

theorem strinfo : (Tryz.prog.info? 9).map (fun i => (i.zero, i.size, i.bytes)) = some (some (.string ⟨#[]⟩), 1, 16) := by kernel_rfl

theorem vcat (a b : List UInt8) (ha : a.length ≤ 4611686018427387903) (hb : b.length ≤ 4611686018427387903) (w : World) : (Op.stringOp .add ⟨a.toArray⟩ ⟨b.toArray⟩).run Tryz.prog w = .ok (.string ⟨(a ++ b).toArray⟩) w := by
  rw [run_string_add_sum _ _ _ (by rw [size_mk, size_mk]; omega), ByteArray.mk_append_mk]

theorem lens_le (ls : List (List UInt8)) (m : Nat) (h : ∀ l ∈ ls, l.length ≤ m) : Lib.lens ls ≤ m * ls.length := by
  induction ls with
  | nil => exact Nat.zero_le _
  | cons a r ih =>
    have h1 := h a (by simp)
    have h2 := ih (fun l hl => h l (by simp [hl]))
    show a.length + Lib.lens r ≤ m * (r.length + 1)
    rw [Nat.mul_add]
    omega
theorem join_le (ls : List (List UInt8)) (m : Nat) (h : ∀ l ∈ ls, l.length ≤ m) : (Lib.join ls [44]).length ≤ (m + 1) * ls.length := by
  cases ls with
  | nil => rw [Lib.join_nil]; exact Nat.zero_le _
  | cons a r =>
    have h1 := lens_le (a :: r) m h
    rw [Lib.join_length]
    show 1 * r.length + Lib.lens (a :: r) ≤ (m + 1) * (r.length + 1)
    have h2 : Lib.lens (a :: r) ≤ m * (r.length + 1) := h1
    rw [Nat.add_mul]
    omega

theorem itoas_step (xs : List Int) (n k : Nat) (hx : xs.length = n) (hk : k < n) :
    (((xs.take k).map fun z => Value.string ⟨(Lib.itoa z).toArray⟩) ++ List.replicate (n - k) (Value.string ⟨#[]⟩)).set k (.string ⟨(Lib.itoa (xs.getD k 0)).toArray⟩)
      = ((xs.take (k + 1)).map fun z => Value.string ⟨(Lib.itoa z).toArray⟩) ++ List.replicate (n - (k + 1)) (Value.string ⟨#[]⟩) := by
  have e : xs.getD k 0 = xs[k] := by rw [List.getD_eq_getElem?_getD, List.getElem?_eq_getElem (by omega)]; rfl
  have hlt : ((xs.take k).map fun z => Value.string ⟨(Lib.itoa z).toArray⟩).length = k := by simp; omega
  rw [e, List.set_append_right _ _ (by omega), hlt, Nat.sub_self, show n - k = (n - (k + 1)) + 1 from by omega, List.replicate_succ, List.set_cons_zero, List.take_succ_eq_append_getElem (by omega), List.map_append]
  simp

set_option maxRecDepth 100000 in
set_option maxHeartbeats 2000000 in
theorem vtext_any (A : Option Addr) (n c : Nat) (xs : List Int) (w : World) (I : IntsIn w A n xs) (hn : n ≤ 1000000) (hp : Lib.TabIs Tryz.prog w "internal/strconv.uint64pow10" .u64 Lib.pow10Tab) :
    Calls Tryz.prog 25 #[.slice A n c] w fun e w' => e = .returned (.string ⟨(textL xs).toArray⟩) ∧ Below w.heap.size w w' := by
  have l := I.len
  have J := Lib.hid I
  have HP := Lib.hid hp
  have hlj : (Lib.join (xs.map Lib.itoa) [44]).length ≤ 22 * n := by
    have := join_le (xs.map Lib.itoa) 21 (by
      intro t ht
      obtain ⟨z, hz, rfl⟩ := List.mem_map.1 ht
      have := bounds_i64 (I.wf z hz)
      exact Lib.itoa_length_le z (by omega) (by omega))
    rw [List.length_map, l] at this
    exact this
  have hc1 := vcat [91] (Lib.join (xs.map Lib.itoa) [44]) (by decide) (by omega)
  have hc2 := vcat ([91] ++ Lib.join (xs.map Lib.itoa) [44]) [93] (by rw [List.length_append]; simp only [List.length_cons, List.length_nil]; omega) (by decide)
  have Hc1 := Lib.hid hc1
  have Hc2 := Lib.hid hc2
  clear I hp hc1 hc2
  obtain ⟨i0, hi0, hz0, hz1, hz2⟩ := info_parts strinfo
  go_enter Tryz.func25, Tryz.ntmps25
  go_wp2_with (at_make; refine wpList_make_full _ rfl (.tmp 7) (.tmp 7) 75 rfl w.heap.size 9 i0 (.string ⟨#[]⟩) 1 Tryz.underlying75 hi0 hz0 hz1 .i64 .i64 _ _ n rfl rfl rfl rfl ?b2 ?b3 ?b4 ?_)
  case b2 => rw [hz2]; omega
  case b3 => unfold maxLen; omega
  case b4 => exact Nat.le_refl _
  intro w1 hown hgr
  have hb1 : Below w.heap.size w w1 := (Below.refl _ _).grown hgr (Nat.le_refl _) (by simp)
  have hlt1 := (World.ownsRow.lt hown w.heap.size rfl).2
  rw [show (madeCells #[Value.string ⟨#[]⟩] n).toList = (List.replicate n (Value.string ⟨#[]⟩)) from (toList_madeCells_one _ _)] at hown
  have Hown := Lib.hid hown
  clear hown hgr
  go_wp2_with fail
  go_loopw [11] (fun i wr => ∃ k : Nat, k ≤ n ∧ i = .int .i64 (k : Int) ∧ wr.ownsRow w.heap.size 9 1 (.slice (some ⟨w.heap.size, 0, none⟩) n n) n (((xs.take k).map fun z => Value.string ⟨(Lib.itoa z).toArray⟩) ++ List.replicate (n - k) (Value.string ⟨#[]⟩)) ∧ Below w.heap.size w wr ∧ w.heap.size < wr.heap.size)
    (fun i _ => n - (intOf i).toNat)
  case atStart => exact ⟨0, by omega, rfl, by simpa using Hown.out, hb1, hlt1⟩
  case round =>
    obtain ⟨k, hk, rfl, hown, hbe, hgt⟩ := hrel
    by_cases hl : k < n
    · obtain ⟨b, o, rfl, hlt, hc⟩ := (J.out.below hbe).some (by omega)
      have d := hc k hl
      have hst := itoas_step xs n k l hl
      have hwf := bounds_i64 (wf_getD J.out.wf (j := k) (by omega))
      obtain ⟨x, hx⟩ : ∃ x, xs.getD k 0 = x := ⟨_, rfl⟩
      rw [hx] at d hst hwf
      have Hst := Lib.hid hst
      have hl1 : (k : Int) < (n : Int) := by omega
      have Hown' := Lib.hid hown
      have HP' := Lib.hid (var?_below hbe glob_pow10 (lt_of_cell (HP.out.cell glob_pow10 0 (by simp [Lib.pow10Tab]))) HP.out)
      clear hc hx hst hown
      go_wp2_with fail
      refine (digits_any x wr (by omega) (by omega) HP'.out).mono ?_
      rintro e w2 ⟨rfl, hb2⟩
      have hown2 : w2.ownsRow w.heap.size 9 1 (.slice (some ⟨w.heap.size, 0, none⟩) n n) n (((xs.take k).map fun z => Value.string ⟨(Lib.itoa z).toArray⟩) ++ List.replicate (n - k) (Value.string ⟨#[]⟩)) := by
        refine ⟨Hown'.out.1, ?_⟩
        rcases Hown'.out.2 with hn | ⟨g, cap, cur, hv, hg, hh, r⟩
        · exact Or.inl hn
        · exact Or.inr ⟨g, cap, cur, hv, hg, (hb2.block g (Array.getElem?_eq_some_iff.1 hh).1).trans hh, r⟩
      have hlen : (((xs.take k).map fun z => Value.string ⟨(Lib.itoa z).toArray⟩) ++ List.replicate (n - k) (Value.string ⟨#[]⟩)).length = n := by simp; omega
      have hc := hown2.cellAt k (by omega)
      have hf := hown2.frozenAt k
      obtain ⟨old, ho⟩ : ∃ x, (((xs.take k).map fun z => Value.string ⟨(Lib.itoa z).toArray⟩) ++ List.replicate (n - k) (Value.string ⟨#[]⟩))[k]? = some x := ⟨_, List.getElem?_eq_getElem (by rw [hlen]; omega)⟩
      rw [ho] at hc
      have hs := World.ownsRow.stored hown2 k (.string ⟨(Lib.itoa x).toArray⟩)
      rw [Hst.out] at hs
      have Hs := Lib.hid hs
      clear hown2 ho hlen hs
      go_wp2_with fail
      go_roundw
      case rel => exact ⟨k + 1, by omega, by go_num, Hs.out.1, below_setCell (hbe.trans (hb2.mono hbe.size)) (Nat.le_refl _) _, by have := hb2.size; simp [World.setCell]; omega⟩
      case measure => simp [intOf]; omega
    · obtain rfl : k = n := by omega
      have hcells : ∀ (j : Nat) (x : ByteArray), (xs.map fun z => (⟨(Lib.itoa z).toArray⟩ : ByteArray))[j]? = some x → wr.cell? ⟨w.heap.size, 0 + j, none⟩ = some (.string x) := by
        intro j x hj
        have hjn : j < xs.length := by
          have := (List.getElem?_eq_some_iff.1 hj).1
          simpa using this
        rw [Nat.zero_add, hown.cellAt j (by omega), List.take_of_length_le (by omega), Nat.sub_self, List.replicate_zero, List.append_nil]
        rw [List.getElem?_map] at hj ⊢
        rw [List.getElem?_eq_getElem hjn] at hj ⊢
        simp only [Option.map_some, Option.some.injEq] at hj ⊢
        rw [hj]
      have hjl : (List.map (fun x : ByteArray => x.data.toList) (xs.map fun z => (⟨(Lib.itoa z).toArray⟩ : ByteArray))) = xs.map Lib.itoa := by
        rw [List.map_map]
        exact List.map_congr_left fun z _ => rfl
      have Jn := Tryz.strings_Join w.heap.size 0 k (xs.map fun z => (⟨(Lib.itoa z).toArray⟩ : ByteArray)) ⟨([44] : List UInt8).toArray⟩ wr hcells hgt (by rw [List.length_map]; omega) (by rw [List.length_map]; omega) (by rw [hjl]; show (Lib.join (xs.map Lib.itoa) [44]).length ≤ _; omega)
      rw [hjl, List.length_map, l] at Jn
      have HJ := Lib.hid Jn
      have k1 := Hc1.out
      have k2 := Hc2.out
      clear hcells hjl Jn hown
      go_wp2_with fail
      refine HJ.out.mono ?_
      rintro e w2 ⟨rfl, hb2⟩
      go_wp2_with fail
      go_ret
      exact ⟨rfl, hbe.trans (hb2.mono hbe.size)⟩
end Go.Proofs.YtalacionlbmcpaaGreatDoor
