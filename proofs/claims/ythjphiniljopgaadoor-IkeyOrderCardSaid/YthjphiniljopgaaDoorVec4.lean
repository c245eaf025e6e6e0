/-
  Walks over package vec, part 4: Put, Text.
-/
import Derived.Test.YthjphiniljopgaaDoorVec2
import Derived.Test.YthjphiniljopgaaDoorBuild
import Derived.Test.YthjphiniljopgaaDoorRaw5
import Derived.Test.YthjphiniljopgaaDoorGlob
import Derived.Lib.Join
import Derived.Lib.ItoaLen
namespace Go.Proofs.YthjphiniljopgaaDoor
open Go.RowKit

theorem isB_below {B b B' : Nat} {bs : List Value} {w w' : World} (h : IsB B b bs w) (hb : Below B' w w') (hB : w.heap.size ≤ B') : IsB B b bs w' := by
  have key : ∀ p, Lib.BuilderAt 59 5 B b p bs w → Lib.BuilderAt 59 5 B b p bs w' := by
    rintro p hh
    have hlt := hh.lt
    obtain ⟨h1, v, h2, h3, h4⟩ := hh
    refine ⟨h1, v, (hb.block b (by omega)).trans h2, ⟨h3.1, ?_⟩, h4⟩
    rcases h3.2 with hn | ⟨g, cap, cur, hv, hg, hh, r⟩
    · exact Or.inl hn
    · exact Or.inr ⟨g, cap, cur, hv, hg, (hb.block g (Nat.lt_of_lt_of_le (Array.getElem?_eq_some_iff.1 hh).1 hB)).trans hh, r⟩
  exact h.elim (fun x => Or.inl (key _ x)) (fun x => Or.inr (key _ x))

/-- A vector's bytes. -/
def vecB (xs : List Int) : List UInt8 := UInt8.ofNat xs.length :: (xs.map fun z => be z.toNat 6).flatten

theorem vecB_step (xs : List Int) (k : Nat) (hk : k < xs.length) :
    UInt8.ofNat xs.length :: ((xs.take (k + 1)).map fun z => be z.toNat 6).flatten = (UInt8.ofNat xs.length :: ((xs.take k).map fun z => be z.toNat 6).flatten) ++ be (xs.getD k 0).toNat 6 := by
  have e : xs.getD k 0 = xs[k] := by rw [List.getD_eq_getElem?_getD, List.getElem?_eq_getElem hk]; rfl
  rw [e, List.take_succ_eq_append_getElem hk, List.map_append, List.flatten_append]
  simp

theorem validL_of {xs : List Int} (h : validL xs = true) : (1 ≤ xs.length ∧ xs.length ≤ 8) ∧ ∀ j, j < xs.length → 0 ≤ xs.getD j 0 ∧ xs.getD j 0 < 281474976710656 := of_decide_eq_true h

set_option maxRecDepth 100000 in
set_option maxHeartbeats 1000000 in
theorem vput_bad (A : Option Addr) (n c : Nat) (xs : List Int) (w : World) (I : IntsIn w A n xs) (h : validL xs = false) :
    Calls Tryd.prog 17 #[.slice A n c] w fun e w' => e = .returned (.tuple #[.string ByteArray.empty, .int .i64 1]) ∧ w = w' := by
  have V := Lib.hid (valid_any A n c xs w I)
  have H := Lib.hid h
  clear I h
  go_enter Tryd.func17, Tryd.ntmps17
  go_wp2_with fail
  refine V.out.mono ?_
  rw [H.out]
  rintro e w' ⟨rfl, rfl⟩
  go_wp2_with fail
  go_ret2
  exact ⟨rfl, rfl⟩

set_option maxRecDepth 100000 in
set_option maxHeartbeats 2000000 in
theorem vput_ok (A : Option Addr) (n c : Nat) (xs : List Int) (w : World) (I : IntsIn w A n xs) (h : validL xs = true) :
    Calls Tryd.prog 17 #[.slice A n c] w fun e w' => e = .returned (.tuple #[.string ⟨(vecB xs).toArray⟩, .int .i64 0]) ∧ Below w.heap.size w w' := by
  have V := Lib.hid (valid_any A n c xs w I)
  obtain ⟨⟨h1, h8⟩, hall⟩ := validL_of h
  have J := Lib.hid I
  have l := I.len
  have H := Lib.hid h
  have Hall := Lib.hid hall
  clear I h hall
  rw [l] at h1 h8
  have hm : Hid ((n : Int) = ((UInt8.ofNat n).toNat : Int)) := u8_of n (by omega)
  go_enter Tryd.func17, Tryd.ntmps17
  go_wp2_with fail
  refine V.out.mono ?_
  rw [H.out]
  rintro e w' ⟨rfl, rfl⟩
  go_wp2_with fail
  have b0 : IsB w.heap.size w.heap.size (Lib.byteCells []) (w.alloc (.cells #[.pointer none, .slice none 0 0] 59)) :=
    Or.inl ⟨Nat.le_refl _, _, heap_alloc_new w _, World.ownsRow_nil _ _ _ _, by simp [Value.ownBlock]⟩
  have hb0 : Below w.heap.size w (w.alloc (.cells #[.pointer none, .slice none 0 0] 59)) := below_alloc (Below.refl _ _) (Nat.le_refl _) _
  generalize w.alloc (.cells #[.pointer none, .slice none 0 0] 59) = w0 at *
  refine (bbyte_any w.heap.size w.heap.size _ _ w0 b0 (by simp [Lib.byteCells]) hb0.size).mono ?_
  rintro e w1 ⟨rfl, b1, hb1⟩
  have b1' : IsB w.heap.size w.heap.size (Lib.byteCells (UInt8.ofNat xs.length :: ((xs.take 0).map fun z => be z.toNat 6).flatten)) w1 := by
    have e : Lib.byteCells [] ++ [Value.int .u8 ((UInt8.ofNat n).toNat : Int)] = Lib.byteCells (UInt8.ofNat xs.length :: ((xs.take 0).map fun z => be z.toNat 6).flatten) := by
      rw [l]; simp [Lib.byteCells]
    rw [← e]
    rw [← hm.out]
    exact b1
  have B1 := Lib.hid b1'
  have hbe := hb0.trans hb1
  clear b0 b1 b1' hb0 hb1
  go_wp2_with fail
  go_loopw [18] (fun i wr => ∃ k : Nat, k ≤ n ∧ i = .int .i64 (k : Int) ∧ IsB w.heap.size w.heap.size (Lib.byteCells (UInt8.ofNat xs.length :: ((xs.take k).map fun z => be z.toNat 6).flatten)) wr ∧ Below w.heap.size w wr)
    (fun i _ => n - (intOf i).toNat)
  case atStart => exact ⟨0, by omega, rfl, B1.out, hbe⟩
  case round =>
    obtain ⟨k, hk, rfl, hB, hbe⟩ := hrel
    have HB := Lib.hid hB
    clear hB
    have hlen : (((xs.take k).map fun z => be z.toNat 6).flatten).length = 6 * k := by
      have : ∀ (zs : List Int), ((zs.map fun z => be z.toNat 6).flatten).length = 6 * zs.length := by
        intro zs
        induction zs with
        | nil => rfl
        | cons z r ih => rw [List.map_cons, List.flatten_cons, List.length_append, ih, be_length, List.length_cons]; omega
      rw [this, List.length_take, l]
      omega
    have Hlen := Lib.hid hlen
    clear hlen
    by_cases hl : k < n
    · obtain ⟨b, o, rfl, hlt, hc⟩ := (J.out.below hbe).some (by omega)
      have d := hc k hl
      have hx2 := Hall.out k (by omega)
      have hst := vecB_step xs k (by omega)
      obtain ⟨x, hx⟩ : ∃ x, xs.getD k 0 = x := ⟨_, rfl⟩
      rw [hx] at d hx2 hst
      obtain ⟨u, rfl⟩ := Int.eq_ofNat_of_zero_le hx2.1
      rw [Int.toNat_natCast] at hst
      have Hst := Lib.hid hst
      have hu : u < 2 ^ (8 * 6) := by omega
      have Hu := Lib.hid hu
      have hl1 : (k : Int) < (n : Int) := by omega
      clear hc hx hst hu hx2
      go_wp2_with fail
      refine (put_ok u 6 wr (by decide) (by decide) Hu.out).mono ?_
      rintro e w2 ⟨rfl, hb2⟩
      have hB2 := isB_below HB.out hb2 (Nat.le_refl _)
      go_wp2_with fail
      refine (bstr_any w.heap.size w.heap.size _ _ w2 hB2 (by rw [Lib.byteCells_length, List.length_cons, Hlen.out, size_mk, be_length]; omega) (Nat.le_trans hbe.size hb2.size)).mono ?_
      rintro e w3 ⟨rfl, hB3, hb3⟩
      have HB3 := Lib.hid hB3
      clear hB3 hB2
      go_wp2_with fail
      go_roundw
      case rel =>
        refine ⟨k + 1, by omega, by go_num, ?_, (hbe.trans (hb2.mono hbe.size)).trans hb3⟩
        rw [Hst.out]
        have := HB3.out
        unfold Lib.strCells at this
        unfold Lib.byteCells at this ⊢
        rw [List.map_append]
        exact this
      case measure => simp [intOf]; omega
    · obtain rfl : k = n := by omega
      have hfin : (UInt8.ofNat xs.length :: ((xs.take k).map fun z => be z.toNat 6).flatten) = vecB xs := by
        rw [List.take_of_length_le (by omega)]; rfl
      have HB2 := HB.out
      rw [hfin] at HB2
      have HB3 := Lib.hid HB2
      clear HB2 hfin
      go_wp2_with fail
      refine (Tryd.Builder_String_any w.heap.size w.heap.size (vecB xs) wr HB3.out hbe.size).mono ?_
      rintro e w2 ⟨rfl, hb2⟩
      go_wp2_with fail
      go_ret2
      exact ⟨rfl, hbe.trans hb2⟩

/-- A vector's text. -/
def textL (xs : List Int) : List UInt8 := 91 :: (Lib.join (xs.map Lib.itoa) [44] ++ [93])

theorem strinfo : (Tryd.prog.info? 9).map (fun i => (i.zero, i.size, i.bytes)) = some (some (.string ⟨#[]⟩), 1, 16) := by kernel_rfl

theorem vcat (a b : List UInt8) (ha : a.length ≤ 4611686018427387903) (hb : b.length ≤ 4611686018427387903) (w : World) : (Op.stringOp .add ⟨a.toArray⟩ ⟨b.toArray⟩).run Tryd.prog w = .ok (.string ⟨(a ++ b).toArray⟩) w := by
  rw [run_string_add_sum _ _ _ (by rw [size_mk, size_mk]; omega), ByteArray.mk_append_mk]

theorem lens_le (ls : List (List UInt8)) (m : Nat) (h : ∀ l ∈ ls, l.length ≤ m) : Lib.lens ls ≤ m * ls.length := by
  induction ls with
  | nil => exact Nat.zero_le _
  | cons a r ih =>
    have h1 := h a (by simp)
    have h2 := ih (fun l hl => h l (by simp [hl]))
    show a.length + Lib.lens r ≤ m * (r.length + 1)
    rw [Nat.mul_add]
    omega
theorem join_le (ls : List (List UInt8)) (m : Nat) (h : ∀ l ∈ ls, l.length ≤ m) : (Lib.join ls [44]).length ≤ (m + 1) * ls.length := by
  cases ls with
  | nil => rw [Lib.join_nil]; exact Nat.zero_le _
  | cons a r =>
    have h1 := lens_le (a :: r) m h
    rw [Lib.join_length]
    show 1 * r.length + Lib.lens (a :: r) ≤ (m + 1) * (r.length + 1)
    have h2 : Lib.lens (a :: r) ≤ m * (r.length + 1) := h1
    rw [Nat.add_mul]
    omega

theorem itoas_step (xs : List Int) (n k : Nat) (hx : xs.length = n) (hk : k < n) :
    (((xs.take k).map fun z => Value.string ⟨(Lib.itoa z).toArray⟩) ++ List.replicate (n - k) (Value.string ⟨#[]⟩)).set k (.string ⟨(Lib.itoa (xs.getD k 0)).toArray⟩)
      = ((xs.take (k + 1)).map fun z => Value.string ⟨(Lib.itoa z).toArray⟩) ++ List.replicate (n - (k + 1)) (Value.string ⟨#[]⟩) := by
  have e : xs.getD k 0 = xs[k] := by rw [List.getD_eq_getElem?_getD, List.getElem?_eq_getElem (by omega)]; rfl
  have hlt : ((xs.take k).map fun z => Value.string ⟨(Lib.itoa z).toArray⟩).length = k := by simp; omega
  rw [e, List.set_append_right _ _ (by omega), hlt, Nat.sub_self, show n - k = (n - (k + 1)) + 1 from by omega, List.replicate_succ, List.set_cons_zero, List.take_succ_eq_append_getElem (by omega), List.map_append]
  simp

end Go.Proofs.YthjphiniljopgaaDoor
