/-
  Several texts in one: Walks over package vec, part 4: Put, Text.
  Plain lemmas on the keys under which versions are kept: heads, their order, the bytes of a version. No program is named.
  Walks over package vec, part 5: Get.
  Walks over package raw: Number, with its deferred closure.
  Digits, without the program: what is told in digits is read as it was.
  Plain lemmas on the bytes of vectors. No program is named.
  Plain lemmas on versions: which are valid, their time, their bytes; the bytes tell the version; their order. No program is named.
  Arrays of three numbers, and slices of structs of two whole numbers and a float64, that came in: what a walk asks of them, out of how they read. No program is named.
  Versions (api.Version) that came in as values: what a walk asks of them, out of how they read. No program is named.
  What a law on versions meets: a version in a block of the call's own; texts by their bytes.
  What is got of bytes as a vector, in one contract for every text: the landed package vec.
  A version in a block of the call's own: cells stored one behind the other; worlds in which one block more was turned.
  The landed package ikey: what its reader takes off.
  Plain lemmas: how a key is read out of bytes. No program is named.
  Plain lemmas: a key's zeros told apart; a key read from the front of bytes, as far as its end. No program is named.
  The document's own time of a version (chapter 5).
  The landed package ikey: keys, places, times, valid versions.
  The landed package ikey: strings.ReplaceAll of a zero byte, Head.
  Plain lemmas: bytes that are read as numbers and times are the bytes of these; what stands behind a key's head. No program is named.
-/
import Derived.Test.YthacdegaeokgnaaGreatDoorM1
import Derived.Lib.Join
import Derived.Lib.ItoaLen
import Derived.Deep.RegionWith
import Derived.Deep.RegionHeld3
import Derived.Defers
import Derived.Recover
import Derived.Lib.ItoaNum
import Derived.Laws.IdiomArrays
import Derived.Laws.Cover2
import Derived.Lib.SmallJoins
import Derived.Deep.Slices
import Derived.Deep.Strs
import Derived.Test.YthacdegaeokgnaaGreatDoorRows
import Derived.Laws.ResultCell
import Derived.Lib.Bytealg
import Derived.Lib.IndexLaws
import Derived.LoopTactic
import Derived.Deep.LoopGhost
namespace Go.Proofs.YthacdegaeokgnaaGreatDoor
open Go.RowKit

theorem isB_below {B b B' : Nat} {bs : List Value} {w w' : World} (h : IsB B b bs w) (hb : Below B' w w') (hB : w.heap.size ≤ B') : IsB B b bs w' := by
  have key : ∀ p, Lib.BuilderAt 109 5 B b p bs w → Lib.BuilderAt 109 5 B b p bs w' := by
    rintro p hh
    have hlt := hh.lt
    obtain ⟨h1, v, h2, h3, h4⟩ := hh
    refine ⟨h1, v, (hb.block b (by omega)).trans h2, ⟨h3.1, ?_⟩, h4⟩
    rcases h3.2 with hn | ⟨g, cap, cur, hv, hg, hh, r⟩
    · exact Or.inl hn
    · exact Or.inr ⟨g, cap, cur, hv, hg, (hb.block g (Nat.lt_of_lt_of_le (Array.getElem?_eq_some_iff.1 hh).1 hB)).trans hh, r⟩
  exact h.elim (fun x => Or.inl (key _ x)) (fun x => Or.inr (key _ x))

/-- A vector's bytes. -/
def vecB (xs : List Int) : List UInt8 := UInt8.ofNat xs.length :: (xs.map fun z => be z.toNat 6).flatten

theorem vecB_step (xs : List Int) (k : Nat) (hk : k < xs.length) :
    UInt8.ofNat xs.length :: ((xs.take (k + 1)).map fun z => be z.toNat 6).flatten = (UInt8.ofNat xs.length :: ((xs.take k).map fun z => be z.toNat 6).flatten) ++ be (xs.getD k 0).toNat 6 := by
  have e : xs.getD k 0 = xs[k] := by rw [List.getD_eq_getElem?_getD, List.getElem?_eq_getElem hk]; rfl
  rw [e, List.take_succ_eq_append_getElem hk, List.map_append, List.flatten_append]
  simp

theorem validL_of {xs : List Int} (h : validL xs = true) : (1 ≤ xs.length ∧ xs.length ≤ 8) ∧ ∀ j, j < xs.length → 0 ≤ xs.getD j 0 ∧ xs.getD j 0 < 281474976710656 := of_decide_eq_true h

set_option maxRecDepth 100000 in
set_option maxHeartbeats 1000000 in
theorem vput_bad (A : Option Addr) (n c : Nat) (xs : List Int) (w : World) (I : IntsIn w A n xs) (h : validL xs = false) :
    Calls Tryz.prog 23 #[.slice A n c] w fun e w' => e = .returned (.tuple #[.string ByteArray.empty, .int .i64 1]) ∧ w = w' := by
  have V := Lib.hid (valid_any A n c xs w I)
  have H := Lib.hid h
  clear I h
  go_enter Tryz.func23, Tryz.ntmps23
  go_wp2_with fail
  refine V.out.mono ?_
  rw [H.out]
  rintro e w' ⟨rfl, rfl⟩
  go_wp2_with fail
  go_ret2
  exact ⟨rfl, rfl⟩

set_option maxRecDepth 100000 in
set_option maxHeartbeats 2000000 in
theorem vput_ok (A : Option Addr) (n c : Nat) (xs : List Int) (w : World) (I : IntsIn w A n xs) (h : validL xs = true) :
    Calls Tryz.prog 23 #[.slice A n c] w fun e w' => e = .returned (.tuple #[.string ⟨(vecB xs).toArray⟩, .int .i64 0]) ∧ Below w.heap.size w w' := by
  have V := Lib.hid (valid_any A n c xs w I)
  obtain ⟨⟨h1, h8⟩, hall⟩ := validL_of h
  have J := Lib.hid I
  have l := I.len
  have H := Lib.hid h
  have Hall := Lib.hid hall
  clear I h hall
  rw [l] at h1 h8
  have hm : Hid ((n : Int) = ((UInt8.ofNat n).toNat : Int)) := u8_of n (by omega)
  go_enter Tryz.func23, Tryz.ntmps23
  go_wp2_with fail
  refine V.out.mono ?_
  rw [H.out]
  rintro e w' ⟨rfl, rfl⟩
  go_wp2_with fail
  have b0 : IsB w.heap.size w.heap.size (Lib.byteCells []) (w.alloc (.cells #[.pointer none, .slice none 0 0] 109)) :=
    Or.inl ⟨Nat.le_refl _, _, heap_alloc_new w _, World.ownsRow_nil _ _ _ _, by simp [Value.ownBlock]⟩
  have hb0 : Below w.heap.size w (w.alloc (.cells #[.pointer none, .slice none 0 0] 109)) := below_alloc (Below.refl _ _) (Nat.le_refl _) _
  generalize w.alloc (.cells #[.pointer none, .slice none 0 0] 109) = w0 at *
  refine (bbyte_any w.heap.size w.heap.size _ _ w0 b0 (by simp [Lib.byteCells]) hb0.size).mono ?_
  rintro e w1 ⟨rfl, b1, hb1⟩
  have b1' : IsB w.heap.size w.heap.size (Lib.byteCells (UInt8.ofNat xs.length :: ((xs.take 0).map fun z => be z.toNat 6).flatten)) w1 := by
    have e : Lib.byteCells [] ++ [Value.int .u8 ((UInt8.ofNat n).toNat : Int)] = Lib.byteCells (UInt8.ofNat xs.length :: ((xs.take 0).map fun z => be z.toNat 6).flatten) := by
      rw [l]; simp [Lib.byteCells]
    rw [← e]
    rw [← hm.out]
    exact b1
  have B1 := Lib.hid b1'
  have hbe := hb0.trans hb1
  clear b0 b1 b1' hb0 hb1
  go_wp2_with fail
  go_loopw [18] (fun i wr => ∃ k : Nat, k ≤ n ∧ i = .int .i64 (k : Int) ∧ IsB w.heap.size w.heap.size (Lib.byteCells (UInt8.ofNat xs.length :: ((xs.take k).map fun z => be z.toNat 6).flatten)) wr ∧ Below w.heap.size w wr)
    (fun i _ => n - (intOf i).toNat)
  case atStart => exact ⟨0, by omega, rfl, B1.out, hbe⟩
  case round =>
    obtain ⟨k, hk, rfl, hB, hbe⟩ := hrel
    have HB := Lib.hid hB
    clear hB
    have hlen : (((xs.take k).map fun z => be z.toNat 6).flatten).length = 6 * k := by
      have : ∀ (zs : List Int), ((zs.map fun z => be z.toNat 6).flatten).length = 6 * zs.length := by
        intro zs
        induction zs with
        | nil => rfl
        | cons z r ih => rw [List.map_cons, List.flatten_cons, List.length_append, ih, be_length, List.length_cons]; omega
      rw [this, List.length_take, l]
      omega
    have Hlen := Lib.hid hlen
    clear hlen
    by_cases hl : k < n
    · obtain ⟨b, o, rfl, hlt, hc⟩ := (J.out.below hbe).some (by omega)
      have d := hc k hl
      have hx2 := Hall.out k (by omega)
      have hst := vecB_step xs k (by omega)
      obtain ⟨x, hx⟩ : ∃ x, xs.getD k 0 = x := ⟨_, rfl⟩
      rw [hx] at d hx2 hst
      obtain ⟨u, rfl⟩ := Int.eq_ofNat_of_zero_le hx2.1
      rw [Int.toNat_natCast] at hst
      have Hst := Lib.hid hst
      have hu : u < 2 ^ (8 * 6) := by omega
      have Hu := Lib.hid hu
      have hl1 : (k : Int) < (n : Int) := by omega
      clear hc hx hst hu hx2
      go_wp2_with fail
      refine (put_ok u 6 wr (by decide) (by decide) Hu.out).mono ?_
      rintro e w2 ⟨rfl, hb2⟩
      have hB2 := isB_below HB.out hb2 (Nat.le_refl _)
      go_wp2_with fail
      refine (bstr_any w.heap.size w.heap.size _ _ w2 hB2 (by rw [Lib.byteCells_length, List.length_cons, Hlen.out, size_mk, be_length]; omega) (Nat.le_trans hbe.size hb2.size)).mono ?_
      rintro e w3 ⟨rfl, hB3, hb3⟩
      have HB3 := Lib.hid hB3
      clear hB3 hB2
      go_wp2_with fail
      go_roundw
      case rel =>
        refine ⟨k + 1, by omega, by go_num, ?_, (hbe.trans (hb2.mono hbe.size)).trans hb3⟩
        rw [Hst.out]
        have := HB3.out
        unfold Lib.strCells at this
        unfold Lib.byteCells at this ⊢
        rw [List.map_append]
        exact this
      case measure => simp [intOf]; omega
    · obtain rfl : k = n := by omega
      have hfin : (UInt8.ofNat xs.length :: ((xs.take k).map fun z => be z.toNat 6).flatten) = vecB xs := by
        rw [List.take_of_length_le (by omega)]; rfl
      have HB2 := HB.out
      rw [hfin] at HB2
      have HB3 := Lib.hid HB2
      clear HB2 hfin
      go_wp2_with fail
      refine (Tryz.Builder_String_any w.heap.size w.heap.size (vecB xs) wr HB3.out hbe.size).mono ?_
      rintro e w2 ⟨rfl, hb2⟩
      go_wp2_with fail
      go_ret2
      exact ⟨rfl, hbe.trans hb2⟩

/-- A vector's text. -/
def textL (xs : List Int) : List UInt8 := 91 :: (Lib.join (xs.map Lib.itoa) [44] ++ [93])

theorem strinfo : (Tryz.prog.info? 9).map (fun i => (i.zero, i.size, i.bytes)) = some (some (.string ⟨#[]⟩), 1, 16) := by kernel_rfl

theorem vcat (a b : List UInt8) (ha : a.length ≤ 4611686018427387903) (hb : b.length ≤ 4611686018427387903) (w : World) : (Op.stringOp .add ⟨a.toArray⟩ ⟨b.toArray⟩).run Tryz.prog w = .ok (.string ⟨(a ++ b).toArray⟩) w := by
  rw [run_string_add_sum _ _ _ (by rw [size_mk, size_mk]; omega), ByteArray.mk_append_mk]

theorem lens_le (ls : List (List UInt8)) (m : Nat) (h : ∀ l ∈ ls, l.length ≤ m) : Lib.lens ls ≤ m * ls.length := by
  induction ls with
  | nil => exact Nat.zero_le _
  | cons a r ih =>
    have h1 := h a (by simp)
    have h2 := ih (fun l hl => h l (by simp [hl]))
    show a.length + Lib.lens r ≤ m * (r.length + 1)
    rw [Nat.mul_add]
    omega
theorem join_le (ls : List (List UInt8)) (m : Nat) (h : ∀ l ∈ ls, l.length ≤ m) : (Lib.join ls [44]).length ≤ (m + 1) * ls.length := by
  cases ls with
  | nil => rw [Lib.join_nil]; exact Nat.zero_le _
  | cons a r =>
    have h1 := lens_le (a :: r) m h
    rw [Lib.join_length]
    show 1 * r.length + Lib.lens (a :: r) ≤ (m + 1) * (r.length + 1)
    have h2 : Lib.lens (a :: r) ≤ m * (r.length + 1) := h1
    rw [Nat.add_mul]
    omega

theorem itoas_step (xs : List Int) (n k : Nat) (hx : xs.length = n) (hk : k < n) :
    (((xs.take k).map fun z => Value.string ⟨(Lib.itoa z).toArray⟩) ++ List.replicate (n - k) (Value.string ⟨#[]⟩)).set k (.string ⟨(Lib.itoa (xs.getD k 0)).toArray⟩)
      = ((xs.take (k + 1)).map fun z => Value.string ⟨(Lib.itoa z).toArray⟩) ++ List.replicate (n - (k + 1)) (Value.string ⟨#[]⟩) := by
  have e : xs.getD k 0 = xs[k] := by rw [List.getD_eq_getElem?_getD, List.getElem?_eq_getElem (by omega)]; rfl
  have hlt : ((xs.take k).map fun z => Value.string ⟨(Lib.itoa z).toArray⟩).length = k := by simp; omega
  rw [e, List.set_append_right _ _ (by omega), hlt, Nat.sub_self, show n - k = (n - (k + 1)) + 1 from by omega, List.replicate_succ, List.set_cons_zero, List.take_succ_eq_append_getElem (by omega), List.map_append]
  simp

end Go.Proofs.YthacdegaeokgnaaGreatDoor

namespace Go.Proofs.YthacdegaeokgnaaGreatDoor
open Go.RowKit

/-- How all versions of a key begin. -/
def headL : List UInt8 → List UInt8
  | [] => [0, 1]
  | c :: l => if c = 0 then 0 :: 255 :: headL l else c :: headL l

theorem headL_two : ∀ a : List UInt8, 2 ≤ (headL a).length ∧ a.length ≤ (headL a).length ∧ (headL a).length ≤ 2 * a.length + 2
  | [] => by simp [headL]
  | c :: l => by
    have := headL_two l
    unfold headL
    split <;> simp <;> omega

/-- No head begins another one's. -/
theorem headL_apart : ∀ (a b s t : List UInt8), headL a ++ s = headL b ++ t → a = b ∧ s = t
  | [], [], s, t, h => by simpa [headL] using h
  | [], d :: m, s, t, h => by
    unfold headL at h
    by_cases hd : d = 0
    · subst hd; simp at h
    · rw [if_neg hd] at h
      simp at h
      exact absurd h.1.symm hd
  | c :: l, [], s, t, h => by
    unfold headL at h
    by_cases hc : c = 0
    · subst hc; simp at h
    · rw [if_neg hc] at h
      simp at h
      exact absurd h.1 hc
  | c :: l, d :: m, s, t, h => by
    unfold headL at h
    by_cases hc : c = 0
    · by_cases hd : d = 0
      · subst hc hd
        simp only [if_true, List.cons_append, List.cons.injEq, true_and] at h
        obtain ⟨rfl, rfl⟩ := headL_apart l m s t h
        exact ⟨rfl, rfl⟩
      · rw [if_pos hc, if_neg hd] at h
        simp at h
        exact absurd h.1.symm hd
    · by_cases hd : d = 0
      · rw [if_neg hc, if_pos hd] at h
        simp at h
        exact absurd h.1 hc
      · rw [if_neg hc, if_neg hd] at h
        simp only [List.cons_append, List.cons.injEq] at h
        obtain ⟨rfl, h⟩ := h
        obtain ⟨rfl, rfl⟩ := headL_apart l m s t h
        exact ⟨rfl, rfl⟩

theorem less_cons (a b : UInt8) (x y : List UInt8) : Op.bytesLess (a :: x) (b :: y) = (decide (a < b) || (a == b && Op.bytesLess x y)) := rfl
theorem less_same (a : UInt8) (x y : List UInt8) : Op.bytesLess (a :: x) (a :: y) = Op.bytesLess x y := by
  rw [less_cons]
  simp
theorem less_ne {a b : UInt8} (h : a ≠ b) (x y : List UInt8) : Op.bytesLess (a :: x) (b :: y) = decide (a < b) := by
  rw [less_cons]
  simp [h]
theorem less_app : ∀ (p x y : List UInt8), Op.bytesLess (p ++ x) (p ++ y) = Op.bytesLess x y
  | [], _, _ => rfl
  | a :: p, x, y => by rw [List.cons_append, List.cons_append, less_same]; exact less_app p x y
/-- Of two unlike rows of one length it doesn't matter what stands behind them. -/
theorem less_front : ∀ (p q x y : List UInt8), p.length = q.length → p ≠ q → Op.bytesLess (p ++ x) (q ++ y) = Op.bytesLess p q
  | [], [], _, _, _, h => absurd rfl h
  | a :: p, b :: q, x, y, hl, hn => by
    rw [List.cons_append, List.cons_append]
    by_cases hab : a = b
    · subst hab
      rw [less_same, less_same]
      exact less_front p q x y (by simpa using hl) (fun e => hn (by rw [e]))
    · rw [less_ne hab, less_ne hab]
theorem less_iff : ∀ (a b : List UInt8), Op.bytesLess a b = decide (Lib.compareBytes a b < 0)
  | [], [] => by simp [Op.bytesLess, Lib.compareBytes]
  | [], _ :: _ => by simp [Op.bytesLess, Lib.compareBytes]
  | _ :: _, [] => by simp [Op.bytesLess, Lib.compareBytes]
  | a :: x, b :: y => by
    unfold Lib.compareBytes
    by_cases h : a = b
    · subst h
      have hn : ¬ a < a := fun h => by simp at h
      rw [less_same, if_neg hn, if_neg hn]
      exact less_iff x y
    · rw [less_ne h]
      by_cases hl : a < b
      · simp [hl]
      · have hb : b < a := by
          rcases Nat.lt_trichotomy a.toNat b.toNat with g | g | g
          · exact absurd (UInt8.lt_iff_toNat_lt.2 g) hl
          · exact absurd (UInt8.toNat_inj.1 g) h
          · exact UInt8.lt_iff_toNat_lt.2 g
        simp [hl, hb]
theorem be_less (n v u : Nat) (hv : v < 2 ^ (8 * n)) (hu : u < 2 ^ (8 * n)) : Op.bytesLess (be v n) (be u n) = decide (v < u) := by
  rw [less_iff, be_cmp n v u hv hu]
  by_cases h : v < u
  · simp [h]
  · rw [if_neg h]
    by_cases g : v = u
    · simp [g]
    · rw [if_neg g]; simp [h]
theorem be_inj (n v u : Nat) (hv : v < 2 ^ (8 * n)) (hu : u < 2 ^ (8 * n)) (h : be v n = be u n) : v = u := by
  have h1 := be_less n v u hv hu
  have h2 := be_less n u v hu hv
  have h3 := be_less n u u hu hu
  rw [h] at h1
  rw [← h, h] at h2
  rw [h1] at h3
  have e1 : ¬ v < u := by
    intro g
    rw [decide_eq_true g, decide_eq_false (Nat.lt_irrefl u)] at h3
    cases h3
  have e2 : ¬ u < v := by
    intro g
    have h4 := be_less n u u hu hu
    rw [h2, decide_eq_true g, decide_eq_false (Nat.lt_irrefl u)] at h4
    cases h4
  omega

/-- Bytes of a lesser key come first, whatever stands behind. -/
theorem headL_less : ∀ (a b s t : List UInt8), a ≠ b → Op.bytesLess (headL a ++ s) (headL b ++ t) = Op.bytesLess a b
  | [], [], _, _, h => absurd rfl h
  | [], d :: m, s, t, _ => by
    unfold headL
    by_cases hd : d = 0
    · subst hd
      simp [Op.bytesLess]
    · rw [if_neg hd]
      have : (0 : UInt8) < d := by
        rcases Nat.eq_zero_or_pos d.toNat with g | g
        · exact absurd (UInt8.toNat_inj.1 (by simpa using g)) hd
        · exact UInt8.lt_iff_toNat_lt.2 (by simpa using g)
      simp [Op.bytesLess, this]
  | c :: l, [], s, t, _ => by
    unfold headL
    by_cases hc : c = 0
    · subst hc
      simp [Op.bytesLess]
    · rw [if_neg hc]
      have : ¬ c < 0 := by
        intro g
        have := UInt8.lt_iff_toNat_lt.1 g
        simp at this
      simp [Op.bytesLess, hc]
  | c :: l, d :: m, s, t, h => by
    unfold headL
    by_cases hcd : c = d
    · subst hcd
      have hn : l ≠ m := fun e => h (by rw [e])
      rw [less_same]
      by_cases hc : c = 0
      · rw [if_pos hc, if_pos hc]
        simp only [List.cons_append]
        rw [less_same, less_same]
        exact headL_less l m s t hn
      · rw [if_neg hc, if_neg hc]
        simp only [List.cons_append]
        rw [less_same]
        exact headL_less l m s t hn
    · rw [less_ne hcd]
      by_cases hc : c = 0
      · rw [if_pos hc, if_neg (fun e => hcd (hc.trans e.symm))]
        simp only [List.cons_append]
        subst hc
        rw [less_ne hcd]
      · by_cases hd : d = 0
        · rw [if_neg hc, if_pos hd]
          simp only [List.cons_append]
          subst hd
          rw [less_ne hcd]
        · rw [if_neg hc, if_neg hd]
          simp only [List.cons_append]
          rw [less_ne hcd]
theorem headL_only (a b : List UInt8) (h : a ≠ b) : Op.bytesLess (headL a) (headL b) = Op.bytesLess a b := by
  have := headL_less a b [] [] h
  simpa using this
theorem less_irrefl (a : List UInt8) : Op.bytesLess a a = false := by
  have := less_app a [] []
  rw [List.append_nil] at this
  rw [this]
  rfl

/-- The bytes behind a head: the time, the place and the number, from behind, and the vector. -/
def tailL (tm o x : Nat) (r : List UInt8) : List UInt8 := be (281474976710655 - tm) 6 ++ (be (255 - o) 1 ++ (be (281474976710655 - x) 6 ++ r))
/-- Of one key the bytes of the later stamp come first. -/
theorem tailL_less (tm o x tm' o' x' : Nat) (r r' : List UInt8) (h1 : tm ≤ 281474976710655) (h1' : tm' ≤ 281474976710655) (h2 : o ≤ 255) (h2' : o' ≤ 255) (h3 : x ≤ 281474976710655) (h3' : x' ≤ 281474976710655)
    (hn : ¬ (tm = tm' ∧ o = o' ∧ x = x')) :
    Op.bytesLess (tailL tm o x r) (tailL tm' o' x' r') = decide (tm' < tm ∨ (tm = tm' ∧ (o' < o ∨ (o = o' ∧ x' < x)))) := by
  unfold tailL
  by_cases e1 : tm = tm'
  · subst e1
    rw [less_app]
    by_cases e2 : o = o'
    · subst e2
      rw [less_app]
      have e3 : x ≠ x' := fun e => hn ⟨rfl, rfl, e⟩
      rw [less_front _ _ _ _ (by rw [be_length, be_length]) (fun e => e3 (by have := be_inj 6 _ _ (by omega) (by omega) e; omega)), be_less 6 _ _ (by omega) (by omega)]
      congr 1
      apply propext
      omega
    · rw [less_front _ _ _ _ (by rw [be_length, be_length]) (fun e => e2 (by have := be_inj 1 _ _ (by omega) (by omega) e; omega)), be_less 1 _ _ (by omega) (by omega)]
      congr 1
      apply propext
      omega
  · rw [less_front _ _ _ _ (by rw [be_length, be_length]) (fun e => e1 (by have := be_inj 6 _ _ (by omega) (by omega) e; omega)), be_less 6 _ _ (by omega) (by omega)]
    congr 1
    apply propext
    omega
end Go.Proofs.YthacdegaeokgnaaGreatDoor

namespace Go.Proofs.YthacdegaeokgnaaGreatDoor
open Go.RowKit

set_option maxRecDepth 100000 in
set_option maxHeartbeats 1000000 in
theorem vnext_ok (s : ByteArray) (k : Nat) (w : World) (hk : k ≤ s.size) (h1 : 1 ≤ k) (h7 : k ≤ 7) :
    Calls Tryz.prog 159 #[.string s, .int .i64 (k : Int)] w fun e w' => e = .returned (.tuple #[.int .i64 (getL (s.data.toList.take k) : Int), .string (s.extract k s.size)]) ∧ ∃ q, w' = w.drewN q := by
  have hk1 : (k : Int) ≤ (s.size : Int) := by omega
  have hsz : (s.extract 0 k).size = k := by simp; omega
  have hget := get_ok (s.extract 0 k) w (by omega) (by omega)
  rw [show (s.extract 0 k).data.toList = s.data.toList.take k from by rw [Lib.extract_data]; simp] at hget
  have G := Lib.hid hget
  clear hget
  go_enter Tryz.func159, Tryz.ntmps159
  go_wp2_with fail
  refine G.out.mono ?_
  rintro e w' ⟨rfl, rfl⟩
  go_wp2_with fail
  go_quiet (fail)
  go_wp2_with fail
  go_ret2
  exact ⟨rfl, _, rfl⟩

set_option maxRecDepth 100000 in
set_option maxHeartbeats 1000000 in
theorem vnext_short (s : ByteArray) (k : Nat) (w : World) (hk : s.size < k) :
    Calls Tryz.prog 159 #[.string s, .int .i64 (k : Int)] w fun e w' => e = .panicked [{ v := .iface 48 (.int .i64 3), recovered := false }] ∧ w = w' := by
  have hk1 : (s.size : Int) < (k : Int) := by omega
  go_enter Tryz.func159, Tryz.ntmps159
  go_wp2_with fail
  exact ⟨rfl, rfl, rfl⟩

set_option maxHeartbeats 400000 in
theorem vget_catch (a b c : Nat) (x y z : Value) (er : Int) (older : List PanicEntry) (w : World) (ha : w.cell? ⟨a, 0, none⟩ = some x) (hb : w.cell? ⟨b, 0, none⟩ = some y) (hc : w.cell? ⟨c, 0, none⟩ = some z)
    (fa : w.frozen? ⟨a, 0, none⟩ = false) (fb : w.frozen? ⟨b, 0, none⟩ = false) (fc : w.frozen? ⟨c, 0, none⟩ = false) (hab : a ≠ b) (hbc : b ≠ c) (hac : a ≠ c) :
    CallsD Tryz.prog 158 #[.pointer (some ⟨a, 0, none⟩), .pointer (some ⟨b, 0, none⟩), .pointer (some ⟨c, 0, none⟩)] (.panicking ({ v := .iface 48 (.int .i64 er), recovered := false } :: older)) w fun e u' w' =>
      e = .returned (.tuple #[]) ∧ u' = .panicking ({ v := .iface 48 (.int .i64 er), recovered := true } :: older) ∧
        w' = ((w.setCell ⟨a, 0, none⟩ (.slice none 0 0)).setCell ⟨b, 0, none⟩ (.int .i64 0)).setCell ⟨c, 0, none⟩ (.int .i64 er) := by
  refine callsD_of_wpS Tryz.func158 rfl fun c₀ cs hu => ?_
  apply wpS_seq
  apply wpS_region
  simp [wpOpsS, go_sem, recoverD, hu, Tryz.ntmps158, Exit.thenS]
  refine wpS_of_wp ?_
  simp [Array.replicate]
  go_wp2_with fail
  refine (told_errno _ _).mono ?_
  rintro e w' ⟨rfl, rfl⟩
  go_wp2
  simp [bodyPostS, results, Tryz.results158]

set_option maxHeartbeats 400000 in
theorem vget_idle (a b c : Value) (w : World) :
    CallsD Tryz.prog 158 #[a, b, c] .returning w fun e u' w' => e = .returned (.tuple #[]) ∧ u' = .returning ∧ w' = w := by
  refine callsD_of_wpS Tryz.func158 rfl fun c₀ cs hu => ?_
  apply wpS_seq
  apply wpS_region
  simp [wpOpsS, go_sem, recoverD, hu, Tryz.ntmps158, Exit.thenS]
  refine wpS_of_wp ?_
  simp [Array.replicate]
  go_wp2
  cases c₀
  simp_all [bodyPostS, results, Tryz.results158]

/-- The call's three results lie in blocks of their own. -/
structure Cells3 (w : World) (p : Nat) (x y z : Value) : Prop where
  b0 : Blk w p 23 #[x]
  b1 : Blk w (p + 1) 3 #[y]
  b2 : Blk w (p + 1 + 1) 48 #[z]

/-- What gave up is recovered: the results are set anew. -/
theorem gend_err (w w2 : World) (p : Nat) (t : Array Value) (x y z : Value) (er : Int) (hp : w.heap.size ≤ p) (hc : Cells3 w2 p x y z) (hb : Below w.heap.size w w2)
    (t2 : t[2]?.getD undef = .pointer (some ⟨p, 0, none⟩)) (t3 : t[3]?.getD undef = .pointer (some ⟨p + 1, 0, none⟩)) (t4 : t[4]?.getD undef = .pointer (some ⟨p + 1 + 1, 0, none⟩)) :
    bodyPostD Tryz.prog Tryz.f145 (fun e w' => e = .returned (.tuple #[.slice none 0 0, .int .i64 0, .int .i64 er]) ∧ Below w.heap.size w w') (Exit.panic [{ v := .iface 48 (.int .i64 er), recovered := false }])
      { tmps := t, defers := [{ target := Target.fn (Fn.func 158) #[.pointer (some ⟨p, 0, none⟩), .pointer (some ⟨p + 1, 0, none⟩), .pointer (some ⟨p + 1 + 1, 0, none⟩)], args := #[] }] } w2 := by
  obtain ⟨b0, b1, b2⟩ := hc
  have c0 := b0.cell 0
  have f0 := b0.frozen 0
  have c1 := b1.cell 0
  have f1 := b1.frozen 0
  have c2 := b2.cell 0
  have f2 := b2.frozen 0
  have e0 := (((b0.set_ 0 (.slice none 0 0)).far (p := ⟨p + 1, 0, none⟩) (by dsimp only; omega) (.int .i64 0)).far (p := ⟨p + 1 + 1, 0, none⟩) (by dsimp only; omega) (.int .i64 er)).cell 0
  have e1 := (((b1.far (p := ⟨p, 0, none⟩) (by dsimp only; omega) (.slice none 0 0)).set_ 0 (.int .i64 0)).far (p := ⟨p + 1 + 1, 0, none⟩) (by dsimp only; omega) (.int .i64 er)).cell 0
  have e2 := (((b2.far (p := ⟨p, 0, none⟩) (by dsimp only; omega) (.slice none 0 0)).far (p := ⟨p + 1, 0, none⟩) (by dsimp only; omega) (.int .i64 0)).set_ 0 (.int .i64 er)).cell 0
  have hb3 := below_setCell (below_setCell (below_setCell hb (p := ⟨p, 0, none⟩) hp (.slice none 0 0)) (p := ⟨p + 1, 0, none⟩) (by dsimp only; omega) (.int .i64 0)) (p := ⟨p + 1 + 1, 0, none⟩) (by dsimp only; omega) (.int .i64 er)
  clear b0 b1 b2
  refine leaves_cons (f := 158) (args := #[.pointer (some ⟨p, 0, none⟩), .pointer (some ⟨p + 1, 0, none⟩), .pointer (some ⟨p + 1 + 1, 0, none⟩)]) (by simp) (by simp [go_sem]) ?_
  refine (vget_catch p (p + 1) (p + 1 + 1) x y z er [] _ c0 c1 c2 f0 f1 f2 (by omega) (by omega) (by omega)).mono ?_
  rintro e u' w'' ⟨rfl, rfl, rfl⟩
  generalize (((w2.setCell ⟨p, 0, none⟩ (.slice none 0 0)).setCell ⟨p + 1, 0, none⟩ (.int .i64 0)).setCell ⟨p + 1 + 1, 0, none⟩ (.int .i64 er)) = w3 at *
  simp at e0 e1 e2
  simp [Leaves, settle, results, Tryz.results145, go_sem, e0, e1, e2, t2, t3, t4]
  exact hb3

set_option maxRecDepth 100000 in
set_option maxHeartbeats 1000000 in
theorem vget_empty (s : ByteArray) (w : World) (hs : s.size = 0) :
    Calls Tryz.prog 145 #[.string s] w fun e w' => e = .returned (.tuple #[.slice none 0 0, .int .i64 0, .int .i64 3]) ∧ Below w.heap.size w w' := by
  have hmf : ∀ (fn : Fn) (first cap : Array Value) (w : World), (Instr.makeFunc fn first cap).run Tryz.prog w = .ok (.func fn first cap) w := fun _ _ _ _ => rfl
  go_enter_defers Tryz.func145, Tryz.ntmps145
  go_wp2_with fail
  have b0 : Blk (((w.alloc (.cells #[.slice none 0 0] 23)).alloc (.cells #[.int .i64 0] 3)).alloc (.cells #[.int .i64 0] 48)) w.heap.size 23 #[.slice none 0 0] := ((Blk.new _ _ _).alloc _).alloc _
  have b1 : Blk (((w.alloc (.cells #[.slice none 0 0] 23)).alloc (.cells #[.int .i64 0] 3)).alloc (.cells #[.int .i64 0] 48)) (w.heap.size + 1) 3 #[.int .i64 0] := (Blk.new' (by simp) _ _).alloc _
  have b2 : Blk (((w.alloc (.cells #[.slice none 0 0] 23)).alloc (.cells #[.int .i64 0] 3)).alloc (.cells #[.int .i64 0] 48)) (w.heap.size + 2) 48 #[.int .i64 0] := Blk.new' (by simp) _ _
  have hb : Below w.heap.size w (((w.alloc (.cells #[.slice none 0 0] 23)).alloc (.cells #[.int .i64 0] 3)).alloc (.cells #[.int .i64 0] 48)) := below_alloc (below_alloc (below_alloc (Below.refl _ _) (Nat.le_refl _) _) (Nat.le_refl _) _) (Nat.le_refl _) _
  generalize (((w.alloc (.cells #[.slice none 0 0] 23)).alloc (.cells #[.int .i64 0] 3)).alloc (.cells #[.int .i64 0] 48)) = w1 at *
  refine (vnext_short s 1 w1 (by omega)).mono ?_
  rintro e w2 ⟨rfl, rfl⟩
  have hc : Cells3 w1 w.heap.size (.slice none 0 0) (.int .i64 0) (.int .i64 0) := ⟨b0, b1, b2⟩
  clear b0 b1 b2
  go_wp2
  exact gend_err w w1 w.heap.size _ _ _ _ 3 (Nat.le_refl _) hc hb rfl rfl rfl

/-- What is got stands in the results. -/
theorem gend_ok (w w2 : World) (p : Nat) (t : Array Value) (v : Value) (sz : Int) (zs : List Int) (hc : Cells3 w2 p v (.int .i64 sz) (.int .i64 0)) (hb : Below w.heap.size w w2) (hN : Nums w2 w.heap.size 3 v zs)
    (t2 : t[2]?.getD undef = .pointer (some ⟨p, 0, none⟩)) (t3 : t[3]?.getD undef = .pointer (some ⟨p + 1, 0, none⟩)) (t4 : t[4]?.getD undef = .pointer (some ⟨p + 1 + 1, 0, none⟩)) :
    bodyPostD Tryz.prog Tryz.f145 (fun e w' => (∃ v, e = .returned (.tuple #[v, .int .i64 sz, .int .i64 0]) ∧ Nums w' w.heap.size 3 v zs) ∧ Below w.heap.size w w') Exit.ret
      { tmps := t, defers := [{ target := Target.fn (Fn.func 158) #[.pointer (some ⟨p, 0, none⟩), .pointer (some ⟨p + 1, 0, none⟩), .pointer (some ⟨p + 1 + 1, 0, none⟩)], args := #[] }] } w2 := by
  have e0 := hc.b0.cell 0
  have e1 := hc.b1.cell 0
  have e2 := hc.b2.cell 0
  clear hc
  refine leaves_cons (f := 158) (args := #[.pointer (some ⟨p, 0, none⟩), .pointer (some ⟨p + 1, 0, none⟩), .pointer (some ⟨p + 1 + 1, 0, none⟩)]) (by simp) (by simp [go_sem]) ?_
  refine (vget_idle _ _ _ _).mono ?_
  rintro e u' w'' ⟨rfl, rfl, rfl⟩
  simp at e0 e1 e2
  simp [Leaves, settle, results, Tryz.results145, go_sem, e0, e1, e2, t2, t3, t4]
  exact ⟨hN, hb⟩

theorem Cells3.drewN {w : World} {p : Nat} {x y z : Value} (h : Cells3 w p x y z) (q : Nat) : Cells3 (w.drewN q) p x y z := ⟨h.b0, h.b1, h.b2⟩

set_option maxRecDepth 100000 in
set_option maxHeartbeats 1000000 in
theorem vget_form (s : ByteArray) (n : Nat) (w : World) (hs : 1 ≤ s.size) (hn : getL (s.data.toList.take 1) = n) (h : n = 0 ∨ 8 < n) :
    Calls Tryz.prog 145 #[.string s] w fun e w' => e = .returned (.tuple #[.slice none 0 0, .int .i64 0, .int .i64 4]) ∧ Below w.heap.size w w' := by
  have hmf : ∀ (fn : Fn) (first cap : Array Value) (w : World), (Instr.makeFunc fn first cap).run Tryz.prog w = .ok (.func fn first cap) w := fun _ _ _ _ => rfl
  have Hn := Lib.hid hn
  clear hn
  go_enter_defers Tryz.func145, Tryz.ntmps145
  go_wp2_with fail
  have hc : Cells3 (((w.alloc (.cells #[.slice none 0 0] 23)).alloc (.cells #[.int .i64 0] 3)).alloc (.cells #[.int .i64 0] 48)) w.heap.size (.slice none 0 0) (.int .i64 0) (.int .i64 0) := ⟨((Blk.new _ _ _).alloc _).alloc _, (Blk.new' (by simp) _ _).alloc _, Blk.new' (by simp) _ _⟩
  have hb : Below w.heap.size w (((w.alloc (.cells #[.slice none 0 0] 23)).alloc (.cells #[.int .i64 0] 3)).alloc (.cells #[.int .i64 0] 48)) := below_alloc (below_alloc (below_alloc (Below.refl _ _) (Nat.le_refl _) _) (Nat.le_refl _) _) (Nat.le_refl _) _
  have hsz : (((w.alloc (.cells #[.slice none 0 0] 23)).alloc (.cells #[.int .i64 0] 3)).alloc (.cells #[.int .i64 0] 48)).heap.size = w.heap.size + 3 := by simp
  generalize (((w.alloc (.cells #[.slice none 0 0] 23)).alloc (.cells #[.int .i64 0] 3)).alloc (.cells #[.int .i64 0] 48)) = w1 at *
  refine (vnext_ok s 1 w1 hs (by decide) (by decide)).mono ?_
  rw [Hn.out]
  rintro e w2 ⟨rfl, q, hw2⟩
  have hc2 : Cells3 w2 w.heap.size (.slice none 0 0) (.int .i64 0) (.int .i64 0) := by rw [hw2]; exact hc.drewN q
  have hb2 : Below w.heap.size w w2 := by rw [hw2]; exact below_drewN hb q
  clear hw2 hc hb
  go_wp2_with fail
  refine (isCount_any n w2).mono ?_
  rw [show decide (1 ≤ (n : Int) ∧ (n : Int) ≤ 8) = false from decide_eq_false (by omega)]
  rintro e w3 ⟨rfl, rfl⟩
  go_wp2
  exact gend_err w w2 w.heap.size _ _ _ _ 4 (Nat.le_refl _) hc2 hb2 rfl rfl rfl

/-- The times that stand in bytes. -/
def timesL (l : List UInt8) (n : Nat) : List Int := (List.range n).map fun i => ((getL ((l.drop (1 + 6 * i)).take 6) : Nat) : Int)
theorem timesL_length (l : List UInt8) (n : Nat) : (timesL l n).length = n := by simp [timesL]
theorem times_step (l : List UInt8) (n k : Nat) (hk : k < n) :
    (((timesL l n).take k ++ List.replicate (n - k) (0 : Int)).map (Value.int .i64)).set k (.int .i64 (getL ((l.drop (1 + 6 * k)).take 6) : Nat))
      = ((timesL l n).take (k + 1) ++ List.replicate (n - (k + 1)) (0 : Int)).map (Value.int .i64) := by
  have hl := timesL_length l n
  have hlt : (List.take k (timesL l n)).length = k := by simp; omega
  have hg : (timesL l n)[k]? = some ((getL ((l.drop (1 + 6 * k)).take 6) : Nat) : Int) := by
    unfold timesL
    rw [List.getElem?_map, List.getElem?_range hk]
    rfl
  have ht : (timesL l n).take (k + 1) = (timesL l n).take k ++ [((getL ((l.drop (1 + 6 * k)).take 6) : Nat) : Int)] := by
    rw [List.take_add_one, hg]
    rfl
  rw [← List.map_set, List.set_append_right _ _ (by omega), hlt, Nat.sub_self, show n - k = (n - (k + 1)) + 1 from by omega, List.replicate_succ, List.set_cons_zero, ht, List.append_assoc]
  rfl

theorem rest_step (s : ByteArray) (k : Nat) (r : ByteArray) (hr : r = s.extract (1 + 6 * k) s.size) (h : 1 + 6 * (k + 1) ≤ s.size) :
    r.data.toList.take 6 = (s.data.toList.drop (1 + 6 * k)).take 6 ∧ r.extract 6 r.size = s.extract (1 + 6 * (k + 1)) s.size ∧ 6 ≤ r.size := by
  have hrs : r.size = s.size - (1 + 6 * k) := by rw [hr]; simp
  refine ⟨?_, ?_, by omega⟩
  · rw [hr, Lib.extract_data, List.take_take, Nat.min_eq_left (by omega)]
  · apply ByteArray.ext
    apply Array.ext'
    rw [Lib.extract_data, Lib.extract_data, hr, Lib.extract_data]
    simp only [ByteArray.size_extract, List.drop_take, List.drop_drop, List.take_take]
    congr 1
    omega

theorem Cells3.setOther {w : World} {p g : Nat} {x y z : Value} (h : Cells3 w p x y z) (hg : p + 1 + 1 < g) (j : Nat) (u : Value) : Cells3 (w.setCell ⟨g, j, none⟩ u) p x y z :=
  ⟨h.b0.far (by dsimp only; omega) u, h.b1.far (by dsimp only; omega) u, h.b2.far (by dsimp only; omega) u⟩

set_option maxRecDepth 100000 in
set_option maxHeartbeats 2000000 in
theorem vget_ok (s : ByteArray) (n : Nat) (w : World) (hs : 1 ≤ s.size) (hsm : s.size ≤ 9223372036854775807) (hn : getL (s.data.toList.take 1) = n) (h1 : 1 ≤ n) (h8 : n ≤ 8) (hlen : 1 + 6 * n ≤ s.size) :
    Calls Tryz.prog 145 #[.string s] w fun e w' => (∃ v, e = .returned (.tuple #[v, .int .i64 (1 + 6 * (n : Int)), .int .i64 0]) ∧ Nums w' w.heap.size 3 v (timesL s.data.toList n)) ∧ Below w.heap.size w w' := by
  have hmf : ∀ (fn : Fn) (first cap : Array Value) (w : World), (Instr.makeFunc fn first cap).run Tryz.prog w = .ok (.func fn first cap) w := fun _ _ _ _ => rfl
  have Hn := Lib.hid hn
  clear hn
  obtain ⟨i0, hi0, hz0, hz1, hz2⟩ := info_parts i64info
  go_enter_defers Tryz.func145, Tryz.ntmps145
  go_wp2_with fail
  have hc : Cells3 (((w.alloc (.cells #[.slice none 0 0] 23)).alloc (.cells #[.int .i64 0] 3)).alloc (.cells #[.int .i64 0] 48)) w.heap.size (.slice none 0 0) (.int .i64 0) (.int .i64 0) := ⟨((Blk.new _ _ _).alloc _).alloc _, (Blk.new' (by simp) _ _).alloc _, Blk.new' (by simp) _ _⟩
  have hb : Below w.heap.size w (((w.alloc (.cells #[.slice none 0 0] 23)).alloc (.cells #[.int .i64 0] 3)).alloc (.cells #[.int .i64 0] 48)) := below_alloc (below_alloc (below_alloc (Below.refl _ _) (Nat.le_refl _) _) (Nat.le_refl _) _) (Nat.le_refl _) _
  have hsz : (((w.alloc (.cells #[.slice none 0 0] 23)).alloc (.cells #[.int .i64 0] 3)).alloc (.cells #[.int .i64 0] 48)).heap.size = w.heap.size + 3 := by simp
  generalize (((w.alloc (.cells #[.slice none 0 0] 23)).alloc (.cells #[.int .i64 0] 3)).alloc (.cells #[.int .i64 0] 48)) = w1 at *
  refine (vnext_ok s 1 w1 hs (by decide) (by decide)).mono ?_
  rw [Hn.out]
  obtain ⟨r, hr⟩ : ∃ r, r = s.extract 1 s.size := ⟨_, rfl⟩
  rw [← hr]
  rintro e w2 ⟨rfl, q, hw2⟩
  have hc2 : Cells3 w2 w.heap.size (.slice none 0 0) (.int .i64 0) (.int .i64 0) := by rw [hw2]; exact hc.drewN q
  have hb2 : Below w.heap.size w w2 := by rw [hw2]; exact below_drewN hb q
  have hsz2 : w2.heap.size = w.heap.size + 3 := by rw [hw2]; exact hsz
  have Hr := Lib.hid hr
  clear hw2 hc hb hsz hr
  go_wp2_with fail
  refine (isCount_any n w2).mono ?_
  rw [show decide (1 ≤ (n : Int) ∧ (n : Int) ≤ 8) = true from decide_eq_true (by omega)]
  rintro e w3 ⟨rfl, rfl⟩
  go_wp2_with (at_make; refine wpList_make_full _ rfl (.tmp 18) (.tmp 18) 23 rfl (w.heap.size + 3) 3 i0 (.int .i64 0) 1 Tryz.underlying23 hi0 hz0 hz1 .i64 .i64 _ _ n rfl rfl rfl rfl ?b2 ?b3 ?b4 ?_)
  case b2 => rw [hz2]; omega
  case b3 => unfold maxLen; omega
  case b4 => omega
  intro w3 hown hgr
  have hc3 : Cells3 w3 w.heap.size (.slice none 0 0) (.int .i64 0) (.int .i64 0) := ⟨hc2.b0.grown hgr (by simp), hc2.b1.grown hgr (by simp), hc2.b2.grown hgr (by simp)⟩
  have hb3 : Below w.heap.size w w3 := hb2.grown hgr (by omega) (by simp)
  rw [show (madeCells #[Value.int IntKind.i64 0] n).toList = (List.replicate n (0 : Int)).map (Value.int .i64) from (toList_madeCells_one _ _).trans (by simp)] at hown
  have c0 := hc3.b0.cell 0
  have f0 := hc3.b0.frozen 0
  simp at c0
  have hown4 := ownsRow_setCell_below hown (a := ⟨w.heap.size, 0, none⟩) (by dsimp only; omega) (.slice (some ⟨w.heap.size + 3, 0, none⟩) n n)
  have hc4 : Cells3 (w3.setCell ⟨w.heap.size, 0, none⟩ (.slice (some ⟨w.heap.size + 3, 0, none⟩) n n)) w.heap.size (.slice (some ⟨w.heap.size + 3, 0, none⟩) n n) (.int .i64 0) (.int .i64 0) :=
    ⟨hc3.b0.set_ 0 _, hc3.b1.far (by dsimp only; omega) _, hc3.b2.far (by dsimp only; omega) _⟩
  have hb4 := below_setCell hb3 (p := ⟨w.heap.size, 0, none⟩) (Nat.le_refl _) (.slice (some ⟨w.heap.size + 3, 0, none⟩) n n)
  have Ho4 := Lib.hid hown4
  have Hc4 := Lib.hid hc4
  have Hb4 := Lib.hid hb4
  clear hgr hown hown4 hc3 hc4 hc2 hb2 hb3 hb4
  go_wp2_with fail
  generalize w3.setCell ⟨w.heap.size, 0, none⟩ (.slice (some ⟨w.heap.size + 3, 0, none⟩) n n) = w4 at *
  go_loopw [6, 22] (fun rs i wr => ∃ (k : Nat) (r : ByteArray), k ≤ n ∧ i = .int .i64 (k : Int) ∧ rs = .string r ∧ Hid (r = s.extract (1 + 6 * k) s.size) ∧ 1 + 6 * k ≤ s.size ∧ wr.ownsRow (w.heap.size + 3) 3 1 (.slice (some ⟨w.heap.size + 3, 0, none⟩) n n) n (((timesL s.data.toList n).take k ++ List.replicate (n - k) (0 : Int)).map (Value.int .i64)) ∧ Cells3 wr w.heap.size (.slice (some ⟨w.heap.size + 3, 0, none⟩) n n) (.int .i64 0) (.int .i64 0) ∧ Below w.heap.size w wr)
    (fun _ i _ => n - (intOf i).toNat)
  case atStart => exact ⟨0, r, by omega, rfl, rfl, Hr, by omega, by simpa using Ho4.out, Hc4.out, Hb4.out⟩
  case round =>
    obtain ⟨k, r, hk, rfl, rfl, Hr, hks, hown, hc, hb⟩ := hrel
    have c0 := hc.b0.cell 0
    have f0 := hc.b0.frozen 0
    simp at c0
    by_cases hl : k < n
    · have hsh : 1 + 6 * (k + 1) ≤ s.size := by omega
      obtain ⟨e1, e2, e3⟩ := rest_step s k r Hr.out hsh
      have hlen : ((timesL s.data.toList n).take k ++ List.replicate (n - k) (0 : Int)).length = n := by simp [timesL_length]; omega
      have hck := hown.cellAt k (by omega)
      have hfk := hown.frozenAt k
      obtain ⟨old, ho⟩ : ∃ x, (((timesL s.data.toList n).take k ++ List.replicate (n - k) (0 : Int)).map (Value.int .i64))[k]? = some x := ⟨_, List.getElem?_eq_getElem (by rw [List.length_map, hlen]; omega)⟩
      rw [ho] at hck
      have hst := World.ownsRow.stored hown k (.int .i64 (getL ((s.data.toList.drop (1 + 6 * k)).take 6) : Nat))
      rw [times_step s.data.toList n k hl] at hst
      obtain ⟨z, hz⟩ : ∃ z, z = getL ((s.data.toList.drop (1 + 6 * k)).take 6) := ⟨_, rfl⟩
      rw [← hz] at hst
      have NX : Hid (∀ W, Calls Tryz.prog 159 #[.string r, .int .i64 6] W fun e w' => e = .returned (.tuple #[.int .i64 (z : Int), .string (s.extract (1 + 6 * (k + 1)) s.size)]) ∧ ∃ q, w' = W.drewN q) := by
        intro W
        have := vnext_ok r 6 W e3 (by decide) (by decide)
        rw [e1, e2, ← hz] at this
        exact this
      have Hst := Lib.hid hst
      have Hc := Lib.hid hc
      have hl1 : (k : Int) < (n : Int) := by omega
      clear e1 e2 e3 hlen hown ho hst hz hc
      go_wp2_with fail
      refine wp_region_noPanic ?_
      go_region_with (go_at_call 159; refine (NX.out _).mono ?_; rintro e w2 ⟨rfl, q, rfl⟩)
      all_goals refine NoPanic.normal ?_
      all_goals go_wp2_with fail
      all_goals go_roundw
      all_goals first
        | exact ⟨k + 1, _, by omega, by go_num, rfl, rfl, hsh, Hst.out.1, (Hc.out.drewN _).setOther (by omega) k _, below_setCell (below_drewN hb _) (by dsimp only; omega) _⟩
        | (simp [intOf]; omega)
    · obtain rfl : k = n := by omega
      have hrs : (s.size : Int) - (r.size : Int) = 1 + 6 * (k : Int) := by
        have : r.size = s.size - (1 + 6 * k) := by rw [Hr.out]; simp
        omega
      have hrm : r.size ≤ s.size := by rw [Hr.out]; simp
      have c1 := hc.b1.cell 0
      have f1 := hc.b1.frozen 0
      have c2 := hc.b2.cell 0
      have f2 := hc.b2.frozen 0
      simp at c1 c2
      have hN : Nums wr (w.heap.size + 3) 3 (.slice (some ⟨w.heap.size + 3, 0, none⟩) k k) (timesL s.data.toList k) := by
        unfold Nums
        rw [timesL_length]
        simpa [List.take_of_length_le (Nat.le_of_eq (timesL_length s.data.toList k))] using hown
      have HN := Lib.hid hN
      have Hc := Lib.hid hc
      clear hN hown Hr hc
      go_wp2_with fail
      have hN1 := ownsRow_setCell_below (ownsRow_setCell_below (ownsRow_setCell_below HN.out (a := ⟨w.heap.size, 0, none⟩) (by dsimp only; omega) (.slice (some ⟨w.heap.size + 3, 0, none⟩) k k)) (a := ⟨w.heap.size + 1, 0, none⟩) (by dsimp only; omega) (.int .i64 (1 + 6 * (k : Int)))) (a := ⟨w.heap.size + 1 + 1, 0, none⟩) (by dsimp only; omega) (.int .i64 0)
      exact gend_ok w _ w.heap.size _ (.slice (some ⟨w.heap.size + 3, 0, none⟩) k k) (1 + 6 * (k : Int)) _
        ⟨((Hc.out.b0.set_ 0 (.slice (some ⟨w.heap.size + 3, 0, none⟩) k k)).far (by dsimp only; omega) _).far (by dsimp only; omega) _, ((Hc.out.b1.far (by dsimp only; omega) _).set_ 0 (.int .i64 (1 + 6 * (k : Int)))).far (by dsimp only; omega) _, ((Hc.out.b2.far (by dsimp only; omega) _).far (by dsimp only; omega) _).set_ 0 (.int .i64 0)⟩
        (below_setCell (below_setCell (below_setCell hb (p := ⟨w.heap.size, 0, none⟩) (Nat.le_refl _) _) (p := ⟨w.heap.size + 1, 0, none⟩) (by dsimp only; omega) _) (p := ⟨w.heap.size + 1 + 1, 0, none⟩) (by dsimp only; omega) _) (Nums.low hN1 (by omega)) rfl rfl rfl

set_option maxRecDepth 100000 in
set_option maxHeartbeats 2000000 in
theorem vget_short (s : ByteArray) (n : Nat) (w : World) (hs : 1 ≤ s.size) (_hsm : s.size ≤ 9223372036854775807) (hn : getL (s.data.toList.take 1) = n) (h1 : 1 ≤ n) (h8 : n ≤ 8) (hlen : s.size < 1 + 6 * n) :
    Calls Tryz.prog 145 #[.string s] w fun e w' => e = .returned (.tuple #[.slice none 0 0, .int .i64 0, .int .i64 3]) ∧ Below w.heap.size w w' := by
  have hmf : ∀ (fn : Fn) (first cap : Array Value) (w : World), (Instr.makeFunc fn first cap).run Tryz.prog w = .ok (.func fn first cap) w := fun _ _ _ _ => rfl
  have Hn := Lib.hid hn
  clear hn
  obtain ⟨i0, hi0, hz0, hz1, hz2⟩ := info_parts i64info
  go_enter_defers Tryz.func145, Tryz.ntmps145
  go_wp2_with fail
  have hc : Cells3 (((w.alloc (.cells #[.slice none 0 0] 23)).alloc (.cells #[.int .i64 0] 3)).alloc (.cells #[.int .i64 0] 48)) w.heap.size (.slice none 0 0) (.int .i64 0) (.int .i64 0) := ⟨((Blk.new _ _ _).alloc _).alloc _, (Blk.new' (by simp) _ _).alloc _, Blk.new' (by simp) _ _⟩
  have hb : Below w.heap.size w (((w.alloc (.cells #[.slice none 0 0] 23)).alloc (.cells #[.int .i64 0] 3)).alloc (.cells #[.int .i64 0] 48)) := below_alloc (below_alloc (below_alloc (Below.refl _ _) (Nat.le_refl _) _) (Nat.le_refl _) _) (Nat.le_refl _) _
  have hsz : (((w.alloc (.cells #[.slice none 0 0] 23)).alloc (.cells #[.int .i64 0] 3)).alloc (.cells #[.int .i64 0] 48)).heap.size = w.heap.size + 3 := by simp
  generalize (((w.alloc (.cells #[.slice none 0 0] 23)).alloc (.cells #[.int .i64 0] 3)).alloc (.cells #[.int .i64 0] 48)) = w1 at *
  refine (vnext_ok s 1 w1 hs (by decide) (by decide)).mono ?_
  rw [Hn.out]
  obtain ⟨r, hr⟩ : ∃ r, r = s.extract 1 s.size := ⟨_, rfl⟩
  rw [← hr]
  rintro e w2 ⟨rfl, q, hw2⟩
  have hc2 : Cells3 w2 w.heap.size (.slice none 0 0) (.int .i64 0) (.int .i64 0) := by rw [hw2]; exact hc.drewN q
  have hb2 : Below w.heap.size w w2 := by rw [hw2]; exact below_drewN hb q
  have hsz2 : w2.heap.size = w.heap.size + 3 := by rw [hw2]; exact hsz
  have Hr := Lib.hid hr
  clear hw2 hc hb hsz hr
  go_wp2_with fail
  refine (isCount_any n w2).mono ?_
  rw [show decide (1 ≤ (n : Int) ∧ (n : Int) ≤ 8) = true from decide_eq_true (by omega)]
  rintro e w3 ⟨rfl, rfl⟩
  go_wp2_with (at_make; refine wpList_make_full _ rfl (.tmp 18) (.tmp 18) 23 rfl (w.heap.size + 3) 3 i0 (.int .i64 0) 1 Tryz.underlying23 hi0 hz0 hz1 .i64 .i64 _ _ n rfl rfl rfl rfl ?b2 ?b3 ?b4 ?_)
  case b2 => rw [hz2]; omega
  case b3 => unfold maxLen; omega
  case b4 => omega
  intro w3 hown hgr
  have hc3 : Cells3 w3 w.heap.size (.slice none 0 0) (.int .i64 0) (.int .i64 0) := ⟨hc2.b0.grown hgr (by simp), hc2.b1.grown hgr (by simp), hc2.b2.grown hgr (by simp)⟩
  have hb3 : Below w.heap.size w w3 := hb2.grown hgr (by omega) (by simp)
  rw [show (madeCells #[Value.int IntKind.i64 0] n).toList = (List.replicate n (0 : Int)).map (Value.int .i64) from (toList_madeCells_one _ _).trans (by simp)] at hown
  have c0 := hc3.b0.cell 0
  have f0 := hc3.b0.frozen 0
  simp at c0
  have hown4 := ownsRow_setCell_below hown (a := ⟨w.heap.size, 0, none⟩) (by dsimp only; omega) (.slice (some ⟨w.heap.size + 3, 0, none⟩) n n)
  have hc4 : Cells3 (w3.setCell ⟨w.heap.size, 0, none⟩ (.slice (some ⟨w.heap.size + 3, 0, none⟩) n n)) w.heap.size (.slice (some ⟨w.heap.size + 3, 0, none⟩) n n) (.int .i64 0) (.int .i64 0) :=
    ⟨hc3.b0.set_ 0 _, hc3.b1.far (by dsimp only; omega) _, hc3.b2.far (by dsimp only; omega) _⟩
  have hb4 := below_setCell hb3 (p := ⟨w.heap.size, 0, none⟩) (Nat.le_refl _) (.slice (some ⟨w.heap.size + 3, 0, none⟩) n n)
  have Ho4 := Lib.hid hown4
  have Hc4 := Lib.hid hc4
  have Hb4 := Lib.hid hb4
  clear hgr hown hown4 hc3 hc4 hc2 hb2 hb3 hb4
  go_wp2_with fail
  generalize w3.setCell ⟨w.heap.size, 0, none⟩ (.slice (some ⟨w.heap.size + 3, 0, none⟩) n n) = w4 at *
  go_loopw [6, 22] (fun rs i wr => ∃ (k : Nat) (r : ByteArray), k ≤ n ∧ i = .int .i64 (k : Int) ∧ rs = .string r ∧ Hid (r = s.extract (1 + 6 * k) s.size) ∧ 1 + 6 * k ≤ s.size ∧ wr.ownsRow (w.heap.size + 3) 3 1 (.slice (some ⟨w.heap.size + 3, 0, none⟩) n n) n (((timesL s.data.toList n).take k ++ List.replicate (n - k) (0 : Int)).map (Value.int .i64)) ∧ Cells3 wr w.heap.size (.slice (some ⟨w.heap.size + 3, 0, none⟩) n n) (.int .i64 0) (.int .i64 0) ∧ Below w.heap.size w wr)
    (fun _ i _ => n - (intOf i).toNat)
  case atStart => exact ⟨0, r, by omega, rfl, rfl, Hr, by omega, by simpa using Ho4.out, Hc4.out, Hb4.out⟩
  case round =>
    obtain ⟨k, r, hk, rfl, rfl, Hr, hks, hown, hc, hb⟩ := hrel
    have c0 := hc.b0.cell 0
    have f0 := hc.b0.frozen 0
    simp at c0
    have hl : k < n := by omega
    by_cases hsh : 1 + 6 * (k + 1) ≤ s.size
    · obtain ⟨e1, e2, e3⟩ := rest_step s k r Hr.out hsh
      have hlen : ((timesL s.data.toList n).take k ++ List.replicate (n - k) (0 : Int)).length = n := by simp [timesL_length]; omega
      have hck := hown.cellAt k (by omega)
      have hfk := hown.frozenAt k
      obtain ⟨old, ho⟩ : ∃ x, (((timesL s.data.toList n).take k ++ List.replicate (n - k) (0 : Int)).map (Value.int .i64))[k]? = some x := ⟨_, List.getElem?_eq_getElem (by rw [List.length_map, hlen]; omega)⟩
      rw [ho] at hck
      have hst := World.ownsRow.stored hown k (.int .i64 (getL ((s.data.toList.drop (1 + 6 * k)).take 6) : Nat))
      rw [times_step s.data.toList n k hl] at hst
      obtain ⟨z, hz⟩ : ∃ z, z = getL ((s.data.toList.drop (1 + 6 * k)).take 6) := ⟨_, rfl⟩
      rw [← hz] at hst
      have NX : Hid (∀ W, Calls Tryz.prog 159 #[.string r, .int .i64 6] W fun e w' => e = .returned (.tuple #[.int .i64 (z : Int), .string (s.extract (1 + 6 * (k + 1)) s.size)]) ∧ ∃ q, w' = W.drewN q) := by
        intro W
        have := vnext_ok r 6 W e3 (by decide) (by decide)
        rw [e1, e2, ← hz] at this
        exact this
      have Hst := Lib.hid hst
      have Hc := Lib.hid hc
      have hl1 : (k : Int) < (n : Int) := by omega
      clear e1 e2 e3 hlen hown ho hst hz hc
      go_wp2_with fail
      refine wp_region_noPanic ?_
      go_region_with (go_at_call 159; refine (NX.out _).mono ?_; rintro e w2 ⟨rfl, q, rfl⟩)
      all_goals refine NoPanic.normal ?_
      all_goals go_wp2_with fail
      all_goals go_roundw
      all_goals first
        | exact ⟨k + 1, _, by omega, by go_num, rfl, rfl, hsh, Hst.out.1, (Hc.out.drewN _).setOther (by omega) k _, below_setCell (below_drewN hb _) (by dsimp only; omega) _⟩
        | (simp [intOf]; omega)
    · have hr6 : r.size < 6 := by rw [Hr.out]; simp; omega
      have HcD : Hid (Cells3 wr.drew w.heap.size (.slice (some ⟨w.heap.size + 3, 0, none⟩) n n) (.int .i64 0) (.int .i64 0)) := hc.drewN 1
      have HbD : Hid (Below w.heap.size w wr.drew) := hb.drew
      have hl1 : (k : Int) < (n : Int) := by omega
      clear hc hb hown Hr
      go_wp2_with fail
      refine wp_region_any (by kernel_rfl) ?_
      change wpAny _ _ _ _ _ _ _ (World.drew _)
      refine wpAny_ready (rs := [0, 1, 2]) (by kernel_rfl) (by simp) ?_
      refine AllReady.cons rfl (fun K hK => ?_) ?_
      · go_simp
        refine hK _ _ ?_
        clear hK K
        refine wpAny_ready (rs := [1, 2]) (by kernel_rfl) (by simp) ?_
        refine AllReady.cons rfl (fun K hK => ?_) ?_
        · go_simp
          refine hK _ _ ?_
          clear hK K
          refine wpAny_ready (rs := [2]) (by kernel_rfl) (by simp) ?_
          refine AllReady.cons rfl (fun K hK => ?_) ?_
          · go_simp
            refine hK _ _ ?_
            clear hK K
            refine wpAny_ready (rs := [3]) (by kernel_rfl) (by simp) ?_
            refine AllReady.cons rfl (fun K hK => ?_) ?_
            · go_simp
              (go_wp2_with (go_at_call 159; refine (vnext_short r 6 _ hr6).mono ?_; rintro e w2 ⟨rfl, rfl⟩); exact gend_err w _ w.heap.size _ _ _ _ 3 (Nat.le_refl _) HcD.out HbD.out rfl rfl rfl)
            exact AllReady.nil
          exact AllReady.nil
        refine AllReady.cons rfl (fun K hK => ?_) ?_
        · go_simp
          refine hK _ _ ?_
          clear hK K
          refine wpAny_ready (rs := [1, 3]) (by kernel_rfl) (by simp) ?_
          refine AllReady.cons rfl (fun K hK => ?_) ?_
          · go_simp
            refine hK _ _ ?_
            clear hK K
            refine wpAny_ready (rs := [3]) (by kernel_rfl) (by simp) ?_
            refine AllReady.cons rfl (fun K hK => ?_) ?_
            · go_simp
              (go_wp2_with (go_at_call 159; refine (vnext_short r 6 _ hr6).mono ?_; rintro e w2 ⟨rfl, rfl⟩); exact gend_err w _ w.heap.size _ _ _ _ 3 (Nat.le_refl _) HcD.out HbD.out rfl rfl rfl)
            exact AllReady.nil
          refine AllReady.cons rfl (fun K hK => ?_) ?_
          · go_simp
            (go_wp2_with (go_at_call 159; refine (vnext_short r 6 _ hr6).mono ?_; rintro e w2 ⟨rfl, rfl⟩); exact gend_err w _ w.heap.size _ _ _ _ 3 (Nat.le_refl _) HcD.out HbD.out rfl rfl rfl)
          exact AllReady.nil
        exact AllReady.nil
      refine AllReady.cons rfl (fun K hK => ?_) ?_
      · go_simp
        refine hK _ _ ?_
        clear hK K
        refine wpAny_ready (rs := [0, 2]) (by kernel_rfl) (by simp) ?_
        refine AllReady.cons rfl (fun K hK => ?_) ?_
        · go_simp
          refine hK _ _ ?_
          clear hK K
          refine wpAny_ready (rs := [2]) (by kernel_rfl) (by simp) ?_
          refine AllReady.cons rfl (fun K hK => ?_) ?_
          · go_simp
            refine hK _ _ ?_
            clear hK K
            refine wpAny_ready (rs := [3]) (by kernel_rfl) (by simp) ?_
            refine AllReady.cons rfl (fun K hK => ?_) ?_
            · go_simp
              (go_wp2_with (go_at_call 159; refine (vnext_short r 6 _ hr6).mono ?_; rintro e w2 ⟨rfl, rfl⟩); exact gend_err w _ w.heap.size _ _ _ _ 3 (Nat.le_refl _) HcD.out HbD.out rfl rfl rfl)
            exact AllReady.nil
          exact AllReady.nil
        refine AllReady.cons rfl (fun K hK => ?_) ?_
        · go_simp
          refine hK _ _ ?_
          clear hK K
          refine wpAny_ready (rs := [0, 3]) (by kernel_rfl) (by simp) ?_
          refine AllReady.cons rfl (fun K hK => ?_) ?_
          · go_simp
            refine hK _ _ ?_
            clear hK K
            refine wpAny_ready (rs := [3]) (by kernel_rfl) (by simp) ?_
            refine AllReady.cons rfl (fun K hK => ?_) ?_
            · go_simp
              (go_wp2_with (go_at_call 159; refine (vnext_short r 6 _ hr6).mono ?_; rintro e w2 ⟨rfl, rfl⟩); exact gend_err w _ w.heap.size _ _ _ _ 3 (Nat.le_refl _) HcD.out HbD.out rfl rfl rfl)
            exact AllReady.nil
          refine AllReady.cons rfl (fun K hK => ?_) ?_
          · go_simp
            (go_wp2_with (go_at_call 159; refine (vnext_short r 6 _ hr6).mono ?_; rintro e w2 ⟨rfl, rfl⟩); exact gend_err w _ w.heap.size _ _ _ _ 3 (Nat.le_refl _) HcD.out HbD.out rfl rfl rfl)
          exact AllReady.nil
        exact AllReady.nil
      refine AllReady.cons rfl (fun K hK => ?_) ?_
      · go_simp
        refine hK _ _ ?_
        clear hK K
        refine wpAny_ready (rs := [0, 1, 3]) (by kernel_rfl) (by simp) ?_
        refine AllReady.cons rfl (fun K hK => ?_) ?_
        · go_simp
          refine hK _ _ ?_
          clear hK K
          refine wpAny_ready (rs := [1, 3]) (by kernel_rfl) (by simp) ?_
          refine AllReady.cons rfl (fun K hK => ?_) ?_
          · go_simp
            refine hK _ _ ?_
            clear hK K
            refine wpAny_ready (rs := [3]) (by kernel_rfl) (by simp) ?_
            refine AllReady.cons rfl (fun K hK => ?_) ?_
            · go_simp
              (go_wp2_with (go_at_call 159; refine (vnext_short r 6 _ hr6).mono ?_; rintro e w2 ⟨rfl, rfl⟩); exact gend_err w _ w.heap.size _ _ _ _ 3 (Nat.le_refl _) HcD.out HbD.out rfl rfl rfl)
            exact AllReady.nil
          refine AllReady.cons rfl (fun K hK => ?_) ?_
          · go_simp
            (go_wp2_with (go_at_call 159; refine (vnext_short r 6 _ hr6).mono ?_; rintro e w2 ⟨rfl, rfl⟩); exact gend_err w _ w.heap.size _ _ _ _ 3 (Nat.le_refl _) HcD.out HbD.out rfl rfl rfl)
          exact AllReady.nil
        refine AllReady.cons rfl (fun K hK => ?_) ?_
        · go_simp
          refine hK _ _ ?_
          clear hK K
          refine wpAny_ready (rs := [0, 3]) (by kernel_rfl) (by simp) ?_
          refine AllReady.cons rfl (fun K hK => ?_) ?_
          · go_simp
            refine hK _ _ ?_
            clear hK K
            refine wpAny_ready (rs := [3]) (by kernel_rfl) (by simp) ?_
            refine AllReady.cons rfl (fun K hK => ?_) ?_
            · go_simp
              (go_wp2_with (go_at_call 159; refine (vnext_short r 6 _ hr6).mono ?_; rintro e w2 ⟨rfl, rfl⟩); exact gend_err w _ w.heap.size _ _ _ _ 3 (Nat.le_refl _) HcD.out HbD.out rfl rfl rfl)
            exact AllReady.nil
          refine AllReady.cons rfl (fun K hK => ?_) ?_
          · go_simp
            (go_wp2_with (go_at_call 159; refine (vnext_short r 6 _ hr6).mono ?_; rintro e w2 ⟨rfl, rfl⟩); exact gend_err w _ w.heap.size _ _ _ _ 3 (Nat.le_refl _) HcD.out HbD.out rfl rfl rfl)
          exact AllReady.nil
        refine AllReady.cons rfl (fun K hK => ?_) ?_
        · go_simp
          (go_wp2_with (go_at_call 159; refine (vnext_short r 6 _ hr6).mono ?_; rintro e w2 ⟨rfl, rfl⟩); exact gend_err w _ w.heap.size _ _ _ _ 3 (Nat.le_refl _) HcD.out HbD.out rfl rfl rfl)
        exact AllReady.nil
      exact AllReady.nil
end Go.Proofs.YthacdegaeokgnaaGreatDoor

namespace Go.Proofs.YthacdegaeokgnaaGreatDoor
open Go.RowKit

def numL (l : List UInt8) : Option Int := if l = [48] then some 0 else (natL (Lib.trimPrefix l [45])).map fun (v : Nat) => if Lib.hasPrefix l [45] then -(v : Int) else (v : Int)

theorem digs_lt (l : List UInt8) : ∀ a v, digs l a = some v → v < (a + 1) * 10 ^ l.length := by
  induction l with
  | nil => intro a v h; injection h with h; subst h; simp
  | cons c r ih =>
    intro a v h
    rw [digs] at h
    split at h
    · have := ih _ _ h
      rw [List.length_cons, Nat.pow_succ]
      have h2 : (a * 10 + (c.toNat - 48) + 1) * 10 ^ r.length ≤ ((a + 1) * 10) * 10 ^ r.length := Nat.mul_le_mul_right _ (by omega)
      rw [Nat.mul_assoc, Nat.mul_comm 10] at h2
      omega
    · cases h
theorem natL_lt {l : List UInt8} {v : Nat} (h : natL l = some v) : v < 10000000000000000 := by
  unfold natL at h
  split at h
  · cases h
  · rename_i hn
    have := digs_lt l 0 v h
    have h2 : (10 : Nat) ^ l.length ≤ 10 ^ 16 := Nat.pow_le_pow_right (by decide) (by omega)
    omega

end Go.Proofs.YthacdegaeokgnaaGreatDoor

namespace Go.Proofs.YthacdegaeokgnaaGreatDoor
open Go.RowKit

theorem foldl_get (l : List UInt8) : ∀ a, l.foldl (fun a c => a * 256 + c.toNat) a = a * 256 ^ l.length + getL l := by
  induction l with
  | nil => intro a; simp [getL]
  | cons c r ih =>
    intro a
    unfold getL
    rw [List.foldl_cons, List.foldl_cons, ih, ih (0 * 256 + c.toNat), List.length_cons, Nat.pow_succ, Nat.add_mul, Nat.zero_mul, Nat.zero_add, Nat.mul_assoc, Nat.mul_comm 256]
    omega
theorem getL_cons (c : UInt8) (r : List UInt8) : getL (c :: r) = c.toNat * 256 ^ r.length + getL r := by
  have := foldl_get r (0 * 256 + c.toNat)
  rw [Nat.zero_mul, Nat.zero_add] at this
  unfold getL
  rw [List.foldl_cons, Nat.zero_mul, Nat.zero_add, this]
  rfl
theorem getL_be (n : Nat) : ∀ v, v < 2 ^ (8 * n) → getL (be v n) = v := by
  induction n with
  | zero => intro v hv; have hv : v < 1 := hv; obtain rfl : v = 0 := by omega
            rfl
  | succ n ih =>
    intro v hv
    have hp : 2 ^ (8 * (n + 1)) = 256 * 2 ^ (8 * n) := by rw [Nat.mul_add, Nat.pow_add, Nat.mul_comm]
    have hq : 256 ^ n = 2 ^ (8 * n) := by rw [show (256 : Nat) = 2 ^ 8 from rfl, ← Nat.pow_mul]
    have hv1 : v / 2 ^ (8 * n) < 256 := by rw [Nat.div_lt_iff_lt_mul (Nat.two_pow_pos _)]; omega
    rw [be_succ, getL_cons, be_length, hq, be_mod, ih _ (Nat.mod_lt _ (Nat.two_pow_pos _)), UInt8.toNat_ofNat', Nat.mod_mod, Nat.mod_eq_of_lt hv1, Nat.mul_comm]
    exact Nat.div_add_mod v _
end Go.Proofs.YthacdegaeokgnaaGreatDoor

namespace Go.Proofs.YthacdegaeokgnaaGreatDoor
open Go.RowKit

theorem flat6_length (zs : List Int) : ((zs.map fun z => be z.toNat 6).flatten).length = 6 * zs.length := by
  induction zs with
  | nil => rfl
  | cons z r ih => rw [List.map_cons, List.flatten_cons, List.length_append, ih, be_length, List.length_cons]; omega
theorem vecB_length (xs : List Int) : (vecB xs).length = 1 + 6 * xs.length := by
  unfold vecB
  rw [List.length_cons, flat6_length]
  omega
theorem flat6_drop (zs : List Int) (more : List UInt8) : ∀ (k : Nat), k < zs.length → (((zs.map fun z => be z.toNat 6).flatten ++ more).drop (6 * k)).take 6 = be (zs.getD k 0).toNat 6 := by
  induction zs with
  | nil => intro k hk; simp at hk
  | cons z r ih =>
    intro k hk
    rw [List.map_cons, List.flatten_cons, List.append_assoc]
    cases k with
    | zero => rw [Nat.mul_zero, List.drop_zero, List.take_left' (be_length _ _)]; rfl
    | succ k =>
      rw [show 6 * (k + 1) = 6 + 6 * k from by omega, ← List.drop_drop, List.drop_left' (be_length _ _)]
      exact ih k (by simpa using hk)
theorem times_vecB (xs : List Int) (more : List UInt8) (h : validL xs = true) : timesL (vecB xs ++ more) xs.length = xs := by
  obtain ⟨_, hall⟩ := validL_of h
  refine list_ext_getD (by rw [timesL_length]) fun j hj => ?_
  rw [timesL_length] at hj
  unfold timesL
  rw [List.getD_eq_getElem?_getD, List.getElem?_map, List.getElem?_range hj]
  show ((getL _ : Nat) : Int) = _
  have e : ((vecB xs ++ more).drop (1 + 6 * j)).take 6 = be (xs.getD j 0).toNat 6 := by
    unfold vecB
    rw [List.cons_append, show 1 + 6 * j = 6 * j + 1 from by omega, List.drop_succ_cons, flat6_drop xs more j hj]
  have hz := hall j hj
  rw [e, getL_be 6 _ (by omega)]
  omega
theorem head_vecB (xs : List Int) (more : List UInt8) (h : validL xs = true) : getL ((vecB xs ++ more).take 1) = xs.length := by
  obtain ⟨⟨h1, h8⟩, _⟩ := validL_of h
  unfold vecB
  rw [List.cons_append, List.take_succ_cons, List.take_zero]
  show 0 * 256 + (UInt8.ofNat xs.length).toNat = xs.length
  rw [UInt8.toNat_ofNat']
  omega
theorem vecB_inj {xs ys : List Int} (hx : validL xs = true) (hy : validL ys = true) (h : vecB xs = vecB ys) : xs = ys := by
  have h1 := head_vecB xs [] hx
  have h2 := head_vecB ys [] hy
  rw [h] at h1
  have hl : xs.length = ys.length := h1.symm.trans h2
  have t1 := times_vecB xs [] hx
  have t2 := times_vecB ys [] hy
  rw [h, hl] at t1
  exact t1.symm.trans t2
end Go.Proofs.YthacdegaeokgnaaGreatDoor

namespace Go.Proofs.YthacdegaeokgnaaGreatDoor
open Go.RowKit

/-- Is it a key? -/
def isKeyL (k : List UInt8) : Bool := decide ((1 ≤ k.length ∧ k.length ≤ 64) ∧ (k.headD 0 = 114 ∨ k.headD 0 = 116 ∨ k.headD 0 = 99 ∨ k.headD 0 = 120 ∨ k.headD 0 = 110))
/-- The greatest time. -/
def mostL (xs : List Int) : Int := xs.foldl (fun a x => if a < x then x else a) 0
/-- A version's time. -/
def timeN (xs : List Int) (o : Int) : Int := if o = 254 then mostL xs else xs.getD o.toNat 0
/-- Can it be kept? -/
def okV (key : List UInt8) (xs : List Int) (o x : Int) : Bool := decide (isKeyL key = true ∧ validL xs = true ∧ (0 ≤ o ∧ (o < (xs.length : Int) ∨ o = 254)) ∧ 0 ≤ x ∧ x < 281474976710656)
/-- A version's bytes. -/
def putVL (key : List UInt8) (xs : List Int) (o x : Int) : List UInt8 := headL key ++ tailL (timeN xs o).toNat o.toNat x.toNat (vecB xs)

theorem mostL_from : ∀ (xs : List Int) (a : Int), a ≤ xs.foldl (fun a x => if a < x then x else a) a ∧ (∀ x ∈ xs, x ≤ xs.foldl (fun a x => if a < x then x else a) a) ∧ (∀ m, a ≤ m → (∀ x ∈ xs, x ≤ m) → xs.foldl (fun a x => if a < x then x else a) a ≤ m)
  | [], a => ⟨Int.le_refl _, fun x hx => absurd hx (by simp), fun m h _ => h⟩
  | y :: l, a => by
    obtain ⟨h1, h2, h3⟩ := mostL_from l (if a < y then y else a)
    simp only [List.foldl_cons]
    refine ⟨?_, fun x hx => ?_, fun m hm hall => ?_⟩
    · have : a ≤ (if a < y then y else a) := by split <;> omega
      omega
    · rcases List.mem_cons.1 hx with rfl | hx
      · have : x ≤ (if a < x then x else a) := by split <;> omega
        omega
      · exact h2 x hx
    · refine h3 m ?_ (fun x hx => hall x (List.mem_cons_of_mem _ hx))
      have := hall y List.mem_cons_self
      split <;> omega
theorem mostL_ge {xs : List Int} {x : Int} (h : x ∈ xs) : x ≤ mostL xs := (mostL_from xs 0).2.1 x h
theorem mostL_nonneg (xs : List Int) : 0 ≤ mostL xs := (mostL_from xs 0).1
theorem getD_mem {xs : List Int} {j : Nat} (h : j < xs.length) : xs.getD j 0 ∈ xs := by
  rw [List.getD_eq_getElem?_getD, List.getElem?_eq_getElem h]
  exact List.getElem_mem h
theorem valid_mem {xs : List Int} (h : validL xs = true) : ∀ x ∈ xs, 0 ≤ x ∧ x < 281474976710656 := by
  intro x hx
  obtain ⟨i, hi, rfl⟩ := List.getElem_of_mem hx
  have := (validL_of h).2 i hi
  rwa [List.getD_eq_getElem?_getD, List.getElem?_eq_getElem hi] at this
theorem mostL_lt {xs : List Int} (h : validL xs = true) : mostL xs < 281474976710656 := by
  have := (mostL_from xs 0).2.2 281474976710655 (by decide) (fun x hx => by have := valid_mem h x hx; omega)
  unfold mostL
  omega

structure OkV (key : List UInt8) (xs : List Int) (o x : Int) : Prop where
  key : isKeyL key = true
  at_ : validL xs = true
  o0 : 0 ≤ o
  o1 : o < (xs.length : Int) ∨ o = 254
  x0 : 0 ≤ x
  x1 : x < 281474976710656
theorem okV_of {key : List UInt8} {xs : List Int} {o x : Int} (h : okV key xs o x = true) : OkV key xs o x := by
  obtain ⟨h1, h2, ⟨h3, h4⟩, h5, h6⟩ := of_decide_eq_true h
  exact ⟨h1, h2, h3, h4, h5, h6⟩
theorem OkV.ok {key : List UInt8} {xs : List Int} {o x : Int} (h : OkV key xs o x) : okV key xs o x = true := decide_eq_true ⟨h.key, h.at_, ⟨h.o0, h.o1⟩, h.x0, h.x1⟩
theorem OkV.o255 {key : List UInt8} {xs : List Int} {o x : Int} (h : OkV key xs o x) : o ≤ 254 := by
  have := (validL_of h.at_).1
  rcases h.o1 with h | h <;> omega
theorem OkV.time {key : List UInt8} {xs : List Int} {o x : Int} (h : OkV key xs o x) : 0 ≤ timeN xs o ∧ timeN xs o < 281474976710656 := by
  unfold timeN
  split
  · exact ⟨mostL_nonneg xs, mostL_lt h.at_⟩
  · rename_i hne
    have ho : o < (xs.length : Int) := by rcases h.o1 with h | h; exact h; exact absurd h hne
    have h0 := h.o0
    exact valid_mem h.at_ _ (getD_mem (by omega))
theorem isKeyL_of {k : List UInt8} (h : isKeyL k = true) : 1 ≤ k.length ∧ k.length ≤ 64 := (of_decide_eq_true h).1

theorem tailL_length (tm o x : Nat) (r : List UInt8) : (tailL tm o x r).length = 13 + r.length := by
  unfold tailL
  simp [be_length]
  omega
theorem putVL_length {key : List UInt8} {xs : List Int} {o x : Int} (h : OkV key xs o x) : 2 ≤ (headL key).length ∧ (headL key).length < (putVL key xs o x).length ∧ (putVL key xs o x).length ≤ 300 := by
  have h1 := headL_two key
  have h2 := (isKeyL_of h.key).2
  have h3 := (validL_of h.at_).1
  unfold putVL
  rw [List.length_append, tailL_length, vecB_length]
  omega

/-- Bytes of a version tell the version. -/
theorem putVL_inj {key key' : List UInt8} {xs xs' : List Int} {o o' x x' : Int} (h : OkV key xs o x) (h' : OkV key' xs' o' x') (e : putVL key xs o x = putVL key' xs' o' x') : key = key' ∧ xs = xs' ∧ o = o' ∧ x = x' := by
  unfold putVL at e
  obtain ⟨hk, e0⟩ := headL_apart _ _ _ _ e
  clear e
  have e := e0
  clear e0
  subst hk
  unfold tailL at e
  have t := h.time
  have t' := h'.time
  have a1 := h.o0
  have a2 := h.o255
  have a3 := h'.o0
  have a4 := h'.o255
  have b1 := h.x0
  have b2 := h.x1
  have b3 := h'.x0
  have b4 := h'.x1
  obtain ⟨e1, e⟩ := List.append_inj e (by rw [be_length, be_length])
  obtain ⟨e2, e⟩ := List.append_inj e (by rw [be_length, be_length])
  obtain ⟨e3, e4⟩ := List.append_inj e (by rw [be_length, be_length])
  have c2 := be_inj 1 _ _ (by omega) (by omega) e2
  have c3 := be_inj 6 _ _ (by omega) (by omega) e3
  exact ⟨rfl, vecB_inj h.at_ h'.at_ e4, by omega, by omega⟩

/-- Bytes of a lesser key come first. -/
theorem putVL_key {key key' : List UInt8} (xs xs' : List Int) (o o' x x' : Int) (hn : key ≠ key') : Op.bytesLess (putVL key xs o x) (putVL key' xs' o' x') = Op.bytesLess key key' := headL_less key key' _ _ hn
/-- Of one key those of the later stamp. -/
theorem putVL_stamp {key : List UInt8} {xs xs' : List Int} {o o' x x' : Int} (h : OkV key xs o x) (h' : OkV key xs' o' x') (hn : ¬ (timeN xs o = timeN xs' o' ∧ o = o' ∧ x = x')) :
    Op.bytesLess (putVL key xs o x) (putVL key xs' o' x') = decide (timeN xs' o' < timeN xs o ∨ (timeN xs o = timeN xs' o' ∧ (o' < o ∨ (o = o' ∧ x' < x)))) := by
  have t := h.time
  have t' := h'.time
  have a1 := h.o0
  have a2 := h.o255
  have a3 := h'.o0
  have a4 := h'.o255
  have b1 := h.x0
  have b2 := h.x1
  have b3 := h'.x0
  have b4 := h'.x1
  unfold putVL
  rw [less_app, tailL_less _ _ _ _ _ _ _ _ (by omega) (by omega) (by omega) (by omega) (by omega) (by omega) (by omega)]
  congr 1
  apply propext
  omega
/-- What was folded together stands ahead of what was done at that time. -/
theorem putVL_folded {key : List UInt8} {xs : List Int} {o x : Int} (h : OkV key xs 254 x) (h0 : 0 ≤ o) (h1 : o < (xs.length : Int)) : OkV key xs o x ∧ Op.bytesLess (putVL key xs 254 x) (putVL key xs o x) = true ∧ xs.getD o.toNat 0 ≤ mostL xs := by
  have h' : OkV key xs o x := ⟨h.key, h.at_, h0, Or.inl h1, h.x0, h.x1⟩
  have hm := mostL_ge (getD_mem (xs := xs) (j := o.toNat) (by omega))
  have hl := (validL_of h.at_).1
  refine ⟨h', ?_, hm⟩
  have ht : timeN xs 254 = mostL xs := by unfold timeN; rw [if_pos rfl]
  have ht' : timeN xs o = xs.getD o.toNat 0 := by unfold timeN; rw [if_neg (by omega)]
  rw [putVL_stamp h h' (by omega), decide_eq_true_eq, ht, ht']
  omega
end Go.Proofs.YthacdegaeokgnaaGreatDoor

namespace Go.Proofs.YthacdegaeokgnaaGreatDoor
open Go.RowKit Go.WideShapes Go.ChangeShapes Go.Deep

section
variable {H : Type} {enc : TypeId × Value → H} {P : Program} {w : World} {base : Nat} {spare : Nat → Bool} {held : Bool} {fuel : Nat} {t e : TypeId} {cs : List Value} {x : DataW H × List MemPlace}
theorem trod_float_ {k : FloatKind} (ht : P.underlying t = some (.float k)) (h : DataW.trod enc P w base spare held fuel t cs = some x) : ∃ n, cs = [.float k n] ∧ x = (.lit (.float k n), []) ∧ (Lit.float k n).wf = true := by
  cases fuel with
  | zero => simp [DataW.trod] at h
  | succ n =>
    unfold DataW.trod at h
    rw [ht] at h
    split at h <;> simp_all

theorem open_arr3 {r : Reach} {b0 : Nat} {v : Value} {d : DataW H} {ps : List MemPlace} (ht : P.underlying t = some (.array 3 e)) (he : P.underlying e = some (.int .i64)) (hc : P.cellsOf e = 1) (hct : P.cellsOf t = 3) (hval : Value.okWide P w r b0 t v) (hd : DataW.Trod enc P w base spare held t v d ps) :
    ∃ a b c, v = .agg #[.int .i64 a, .int .i64 b, .int .i64 c] ∧ d = .agg [.lit (.int .i64 a), .lit (.int .i64 b), .lit (.int .i64 c)] ∧ ps = [] ∧ (Lit.int .i64 a).wf = true ∧ (Lit.int .i64 b).wf = true ∧ (Lit.int .i64 c).wf = true := by
  obtain ⟨cs, rfl, hsz, _⟩ : ∃ cs, v = .agg cs ∧ cs.size = P.cellsOf t ∧ Row.okWide P w r b0 t cs := by
    simpa [Value.okWide, ht] using hval
  rw [hct] at hsz
  obtain ⟨c0, c1, c2, rfl⟩ := Joins.array3 hsz
  obtain ⟨fuel, hf⟩ := hd
  obtain ⟨y0, y1, y2, m, hx, h0, h1, h2⟩ := trod_array3 ht hc hf
  obtain ⟨a, e0, rfl, w0⟩ := DataW.trod_int he h0
  obtain ⟨b, e1, rfl, w1⟩ := DataW.trod_int he h1
  obtain ⟨c, e2, rfl, w2⟩ := DataW.trod_int he h2
  simp at e0 e1 e2
  subst e0 e1 e2
  simp only [Prod.mk.injEq] at hx
  exact ⟨a, b, c, rfl, hx.1, by simpa using hx.2, w0, w1, w2⟩
theorem shut_arr3 {a b c : Int} (ht : P.underlying t = some (.array 3 e)) (he : P.underlying e = some (.int .i64)) (hc : P.cellsOf e = 1) (hct : P.cellsOf t = 3) (w0 : (Lit.int .i64 a).wf = true) (w1 : (Lit.int .i64 b).wf = true) (w2 : (Lit.int .i64 c).wf = true) :
    DataW.Trod enc P w base spare held t (.agg #[.int .i64 a, .int .i64 b, .int .i64 c]) (.agg [.lit (.int .i64 a), .lit (.int .i64 b), .lit (.int .i64 c)]) [] := by
  refine ⟨2, ?_⟩
  have r3 : List.range 3 = [0, 1, 2] := rfl
  unfold DataW.trod
  rw [ht]
  simp [Value.cells, r3, hc, hct, DataW.trod, he, w0, w1, w2]
end

/-- n structs of two whole numbers and a float64 stand at A. -/
structure OpsIn (w : World) (A : Option Addr) (n : Nat) (K N : Nat → Int) (F : Nat → Nat) : Prop where
  max : n ≤ 9223372036854775807
  some : 0 < n → ∃ b off, A = .some ⟨b, off, none⟩ ∧ b < w.heap.size ∧ ∀ j, j < n → w.cell? ⟨b, off + j * 3, none⟩ = .some (.int .i64 (K j)) ∧ w.cell? ⟨b, off + j * 3 + 1, none⟩ = .some (.int .i64 (N j)) ∧ w.cell? ⟨b, off + j * 3 + 2, none⟩ = .some (.float .f64 (F j))
  wf : ∀ j, j < n → (Lit.int .i64 (N j)).wf = true

theorem OpsIn.below {w w' : World} {A : Option Addr} {n : Nat} {K N : Nat → Int} {F : Nat → Nat} (h : OpsIn w A n K N F) (hb : Below w.heap.size w w') : OpsIn w' A n K N F :=
  ⟨h.max, fun hn => by
    obtain ⟨b, off, rfl, hlt, hc⟩ := h.some hn
    exact ⟨b, off, rfl, Nat.lt_of_lt_of_le hlt hb.size, fun j hj => ⟨(hb.cell (p := ⟨b, off + j * 3, none⟩) hlt).trans (hc j hj).1, (hb.cell (p := ⟨b, off + j * 3 + 1, none⟩) hlt).trans (hc j hj).2.1, (hb.cell (p := ⟨b, off + j * 3 + 2, none⟩) hlt).trans (hc j hj).2.2⟩⟩, h.wf⟩

section
variable {H : Type} {enc : TypeId × Value → H} {P : Program} {w : World} {t e : TypeId} {A : Option Addr} {n cp : Nat} {d : DataW H} {p : List MemPlace}
theorem ops_view {f0 f1 f2 : Field} (ht : P.underlying t = some (.slice e)) (he : P.underlying e = some (.struct #[f0, f1, f2])) (hc : P.cellsOf e = 3) (o0 : f0.offset = 0) (o1 : f1.offset = 1) (o2 : f2.offset = 2) (c0 : P.cellsOf f0.type = 1) (c1 : P.cellsOf f1.type = 1) (c2 : P.cellsOf f2.type = 1)
    (u0 : P.underlying f0.type = some (.int .i64)) (u1 : P.underlying f1.type = some (.int .i64)) (u2 : P.underlying f2.type = some (.float .f64))
    (h : DataW.Trod enc P w 0 (fun _ => true) true t (.slice A n cp) d p) : ∃ K N F, OpsIn w A n K N F := by
  obtain ⟨fuel, hf⟩ := h
  rcases open_slice ht hf with ⟨hcs, _⟩ | ⟨a, len', cap', m, k, D, Pl, hcs, _, hl, hm, hmm, _, hx⟩
  · simp [Value.cells] at hcs
    obtain ⟨rfl, rfl, rfl⟩ := hcs
    exact ⟨fun _ => 0, fun _ => 0, fun _ => 0, by decide, fun h => absurd h (by decide), fun j h => absurd h (by omega)⟩
  · simp [Value.cells] at hcs
    obtain ⟨rfl, rfl, rfl⟩ := hcs
    rw [if_pos rfl] at hmm
    unfold maxLen at hm
    have each : ∀ j, j < n → ∃ q : Int × Int × Nat, w.cell? (a.add (j * 3)) = some (.int .i64 q.1) ∧ w.cell? (a.add (j * 3 + 1)) = some (.int .i64 q.2.1) ∧ w.cell? (a.add (j * 3 + 2)) = some (.float .f64 q.2.2) ∧ (Lit.int .i64 q.2.1).wf = true := by
      intro j hj
      obtain ⟨cs', h1, h2⟩ := hx j (by omega)
      rw [hc] at h1
      obtain ⟨_, hlen, hcell⟩ := World.cells?_some h1
      obtain ⟨y0, y1, y2, g, _, _, g0, g1, g2⟩ := trod_struct3 he h2
      match cs', hlen, hcell, g0, g1, g2 with
      | [v0, v1, v2], _, hcell, g0, g1, g2 =>
        obtain ⟨k0, e0, _, _⟩ := DataW.trod_int u0 g0
        obtain ⟨k1, e1, _, w1⟩ := DataW.trod_int u1 g1
        obtain ⟨k2, e2, _, _⟩ := trod_float_ u2 g2
        simp [o0, o1, o2, c0, c1, c2] at e0 e1 e2
        subst e0 e1 e2
        refine ⟨(k0, k1, k2), ?_, ?_, ?_, w1⟩
        · have := hcell 0 (by simp)
          simpa [Go.Deep.add_add] using this
        · have := hcell 1 (by simp)
          simpa [Go.Deep.add_add] using this
        · have := hcell 2 (by simp)
          simpa [Go.Deep.add_add] using this
    obtain ⟨q, hq⟩ := choose_lt each
    refine ⟨fun j => (q j).1, fun j => (q j).2.1, fun j => (q j).2.2, by omega, fun hn => ?_, fun j hj => (hq j hj).2.2.2⟩
    obtain ⟨b, off, spot⟩ := a
    have hspot : spot = none := by simpa [Addr.add] using World.cell?_spot (hq 0 hn).1
    subst hspot
    refine ⟨b, off, rfl, ?_, fun j hj => ?_⟩
    · have := (hq 0 hn).1
      rw [Go.WideShapes.add_plain] at this
      exact block_lt this
    · have := hq j hj
      rw [Go.WideShapes.add_plain, Go.WideShapes.add_plain, Go.WideShapes.add_plain, ← Nat.add_assoc, ← Nat.add_assoc] at this
      exact ⟨this.1, this.2.1, this.2.2.1⟩
end
end Go.Proofs.YthacdegaeokgnaaGreatDoor

namespace Go.Proofs.YthacdegaeokgnaaGreatDoor
open Go.RowKit Go.WideShapes Go.ChangeShapes Go.Deep

/-- A version as a value: key, vector, place, number, act. -/
def verV (key : ByteArray) (A : Option Addr) (n c : Nat) (o x kd : Int) (nu : Nat) (it : Int) (tx : ByteArray) : Value :=
  .agg #[.string key, .slice A n c, .int .i64 o, .int .i64 x, .int .i64 kd, .float .f64 nu, .int .i64 it, .string tx]

theorem array8 {α : Type} {cs : Array α} (h : cs.size = 8) : ∃ c0 c1 c2 c3 c4 c5 c6 c7, cs = #[c0, c1, c2, c3, c4, c5, c6, c7] := by
  obtain ⟨l⟩ := cs
  match l, h with
  | [c0, c1, c2, c3, c4, c5, c6, c7], _ => exact ⟨c0, c1, c2, c3, c4, c5, c6, c7, rfl⟩

/-- What is known of a version that came in. -/
structure VerIn (w : World) (key : ByteArray) (A : Option Addr) (n : Nat) (xs : List Int) (o x kd : Int) (nu : Nat) (it : Int) (tx : ByteArray) : Prop where
  ints : IntsIn w A n xs
  ks : key.size ≤ 9223372036854775807
  ow : (Lit.int .i64 o).wf = true
  xw : (Lit.int .i64 x).wf = true
  kw : (Lit.int .i64 kd).wf = true
  nw : (Lit.float .f64 nu).wf = true
  iw : (Lit.int .i64 it).wf = true
  ts : tx.size ≤ 9223372036854775807

theorem VerIn.below {w w' : World} {key : ByteArray} {A : Option Addr} {n : Nat} {xs : List Int} {o x kd : Int} {nu : Nat} {it : Int} {tx : ByteArray} (h : VerIn w key A n xs o x kd nu it tx) (hb : Below w.heap.size w w') : VerIn w' key A n xs o x kd nu it tx :=
  ⟨h.ints.below hb, h.ks, h.ow, h.xw, h.kw, h.nw, h.iw, h.ts⟩

section
variable {H : Type} {enc : TypeId × Value → H} {P : Program} {w : World} {t e tv ta : TypeId} {d : DataW H} {p : List MemPlace} {v : Value} {f0 f1 f2 f3 f4 g0 g1 g2 g3 : Field}
theorem ver_view {r : Reach} {b0 : Nat} (ht : P.underlying t = some (.struct #[f0, f1, f2, f3, f4])) (hct : P.cellsOf t = 8) (hta : P.underlying f4.type = some (.struct #[g0, g1, g2, g3]))
    (offs : [f0.offset, f1.offset, f2.offset, f3.offset, f4.offset, g0.offset, g1.offset, g2.offset, g3.offset] = [0, 1, 2, 3, 4, 0, 1, 2, 3])
    (cells : [f0.type, f1.type, f2.type, f3.type, f4.type, g0.type, g1.type, g2.type, g3.type].map P.cellsOf = [1, 1, 1, 1, 4, 1, 1, 1, 1]) (ce : P.cellsOf e = 1)
    (u0 : P.underlying f0.type = some .string) (u1 : P.underlying f1.type = some (.slice e)) (ue : P.underlying e = some (.int .i64)) (u2 : P.underlying f2.type = some (.int .i64)) (u3 : P.underlying f3.type = some (.int .i64))
    (k0 : P.underlying g0.type = some (.int .i64)) (k1 : P.underlying g1.type = some (.float .f64)) (k2 : P.underlying g2.type = some (.int .i64)) (k3 : P.underlying g3.type = some .string)
    (hval : Value.okWide P w r b0 t v) (h : DataW.Trod enc P w 0 (fun _ => true) true t v d p) :
    ∃ key A n c o x kd nu it tx xs, v = verV key A n c o x kd nu it tx ∧ VerIn w key A n xs o x kd nu it tx := by
  simp only [List.cons.injEq, and_true, List.map_cons, List.map_nil] at offs cells
  obtain ⟨o0, o1, o2, o3, o4, q0, q1, q2, q3⟩ := offs
  obtain ⟨c0, c1, c2, c3, c4, d0, d1, d2, d3⟩ := cells
  obtain ⟨cs, rfl, hsz⟩ := okWide_struct ht hval
  obtain ⟨a0, a1, a2, a3, a4, a5, a6, a7, rfl⟩ := array8 (hsz.trans hct)
  obtain ⟨fuel, hf⟩ := h
  obtain ⟨ys, m, _, _, _, hlen, hg⟩ := DataW.trod_struct ht hf
  match ys, hlen, hg with
  | [y0, y1, y2, y3, y4], _, hg =>
    have h0 := hg 0 f0 rfl
    have h1 := hg 1 f1 rfl
    have h2 := hg 2 f2 rfl
    have h3 := hg 3 f3 rfl
    have h4 := hg 4 f4 rfl
    simp [Value.cells, o0, o1, o2, o3, o4, c0, c1, c2, c3, c4] at h0 h1 h2 h3 h4
    obtain ⟨key, e0, _, s0⟩ := DataW.trod_string u0 h0
    obtain ⟨o, e2, _, w2⟩ := DataW.trod_int u2 h2
    obtain ⟨x, e3, _, w3⟩ := DataW.trod_int u3 h3
    obtain ⟨A, n, c, e1⟩ : ∃ A n c, a1 = .slice A n c := by
      rcases DataW.trod_slice u1 h1 with ⟨hs, _⟩ | ⟨a, len, cap, _, _, _, _, hs, _⟩
      · exact ⟨none, 0, 0, by simpa using hs⟩
      · exact ⟨some a, len, cap, by simpa using hs⟩
    simp at e0 e2 e3
    subst e0 e1 e2 e3
    obtain ⟨xs, hI⟩ := ints_view (d := y1.1) (p := y1.2) u1 ue ce ⟨m, by simpa [Value.cells] using h1⟩
    obtain ⟨zs, l, _, _, _, hlen2, hk⟩ := DataW.trod_struct hta h4
    match zs, hlen2, hk with
    | [z0, z1, z2, z3], _, hk =>
      have t0 := hk 0 g0 rfl
      have t1 := hk 1 g1 rfl
      have t2 := hk 2 g2 rfl
      have t3 := hk 3 g3 rfl
      simp [q0, q1, q2, q3, d0, d1, d2, d3] at t0 t1 t2 t3
      obtain ⟨kd, r0, _, v0⟩ := DataW.trod_int k0 t0
      obtain ⟨nu, r1, _, v1⟩ := trod_float_ k1 t1
      obtain ⟨it, r2, _, v2⟩ := DataW.trod_int k2 t2
      obtain ⟨tx, r3, _, v3⟩ := DataW.trod_string k3 t3
      simp at r0 r1 r2 r3
      subst r0 r1 r2 r3
      unfold maxLen at s0 v3
      exact ⟨key, A, n, c, o, x, kd, nu, it, tx, xs, rfl, hI, by omega, w2, w3, v0, v1, v2, by omega⟩
end
end Go.Proofs.YthacdegaeokgnaaGreatDoor

namespace Go.Proofs.YthacdegaeokgnaaGreatDoor
open Go.RowKit

/-- The cells of a version. -/
def verC (key : ByteArray) (A : Option Addr) (n c : Nat) (o x kd : Int) (nu : Nat) (it : Int) (tx : ByteArray) : Array Value :=
  #[.string key, .slice A n c, .int .i64 o, .int .i64 x, .int .i64 kd, .float .f64 nu, .int .i64 it, .string tx]

theorem ver_cells {w : World} {p : Nat} {t : TypeId} {key : ByteArray} {A : Option Addr} {n c : Nat} {o x kd : Int} {nu : Nat} {it : Int} {tx : ByteArray} (h : Blk w p t (verC key A n c o x kd nu it tx)) :
    w.cell? ⟨p, 0, none⟩ = some (.string key) ∧ w.cell? ⟨p, 1, none⟩ = some (.slice A n c) ∧ w.cell? ⟨p, 2, none⟩ = some (.int .i64 o) ∧ w.cell? ⟨p, 3, none⟩ = some (.int .i64 x) ∧
    w.cell? ⟨p, 4, none⟩ = some (.int .i64 kd) ∧ w.cell? ⟨p, 5, none⟩ = some (.float .f64 nu) ∧ w.cell? ⟨p, 6, none⟩ = some (.int .i64 it) ∧ w.cell? ⟨p, 7, none⟩ = some (.string tx) :=
  ⟨h.cell 0, h.cell 1, h.cell 2, h.cell 3, h.cell 4, h.cell 5, h.cell 6, h.cell 7⟩

theorem run_sto_f64 (W : World) (ad : Addr) (v : Nat) : (store ad (.float .f64 v)).run Tryz.prog W = stored Tryz.prog W ad (.float .f64 v) .plain := run_store _ W ad _ _ rfl

/-! ### Texts by their bytes -/
theorem str_eq {X Y : ByteArray} : (X.toList == Y.toList) = decide (X.data.toList = Y.data.toList) := by
  rw [Lib.toList_data, Lib.toList_data]
  exact Bool.eq_iff_iff.2 (by rw [beq_iff_eq, decide_eq_true_eq])
theorem str_less {X Y : ByteArray} : Op.bytesLess X.toList Y.toList = Op.bytesLess X.data.toList Y.data.toList := by rw [Lib.toList_data, Lib.toList_data]
theorem str_take (X : ByteArray) (k : Nat) : (X.extract 0 k).data.toList = X.data.toList.take k := by simp [ByteArray.data_extract]
theorem str_size (X : ByteArray) : X.size = X.data.toList.length := by rw [Array.length_toList]; rfl
/-- X stands at the front of Y. -/
theorem str_front {X Y : ByteArray} (_h : X.size ≤ Y.size) : ((Y.extract 0 X.size).toList == X.toList) = true ↔ ∃ r, Y.data.toList = X.data.toList ++ r := by
  rw [str_eq, decide_eq_true_eq, str_take]
  constructor
  · intro e
    exact ⟨Y.data.toList.drop X.size, by rw [← e]; exact (List.take_append_drop _ _).symm⟩
  · rintro ⟨r, e⟩
    rw [e, str_size, List.take_left]
theorem str_not_front {X Y : ByteArray} (h : X.size ≤ Y.size) (hn : ∀ r, Y.data.toList ≠ X.data.toList ++ r) : ((Y.extract 0 X.size).toList == X.toList) = false := by
  cases e : ((Y.extract 0 X.size).toList == X.toList)
  · rfl
  · obtain ⟨r, hr⟩ := (str_front h).1 e
    exact absurd hr (hn r)
theorem mk_data (l : List UInt8) : (⟨l.toArray⟩ : ByteArray).data.toList = l := by simp
end Go.Proofs.YthacdegaeokgnaaGreatDoor

namespace Go.Proofs.YthacdegaeokgnaaGreatDoor
open Go.RowKit

/-- What Get answers: the times, how many bytes, the error. -/
def getT (s : ByteArray) : List Int × Int × Int :=
  if s.size = 0 then ([], 0, 3) else
  if getL (s.data.toList.take 1) = 0 ∨ 8 < getL (s.data.toList.take 1) then ([], 0, 4) else
  if s.size < 1 + 6 * getL (s.data.toList.take 1) then ([], 0, 3) else (timesL s.data.toList (getL (s.data.toList.take 1)), 1 + 6 * ((getL (s.data.toList.take 1) : Nat) : Int), 0)
theorem gvget_any (s : ByteArray) (w : World) (hs : s.size ≤ 140737488351232) :
    Calls Tryz.prog 145 #[.string s] w fun e w' => ∃ v, e = .returned (.tuple #[v, .int .i64 (getT s).2.1, .int .i64 (getT s).2.2]) ∧ Nums w' w.heap.size 3 v (getT s).1 ∧ Below w.heap.size w w' := by
  unfold getT
  split
  · next h => exact (vget_empty s w h).mono fun _ _ h => ⟨_, h.1, World.ownsRow_nil _ _ _ _, h.2⟩
  · next h0 =>
    split
    · next h => exact (vget_form s _ w (by omega) rfl h).mono fun _ _ h => ⟨_, h.1, World.ownsRow_nil _ _ _ _, h.2⟩
    · next h1 =>
      split
      · next h => exact (vget_short s _ w (by omega) (by omega) rfl (by omega) (by omega) h).mono fun _ _ h => ⟨_, h.1, World.ownsRow_nil _ _ _ _, h.2⟩
      · next h => exact (vget_ok s _ w (by omega) (by omega) rfl (by omega) (by omega) (by omega)).mono fun _ _ h => by obtain ⟨⟨v, e, hN⟩, hb⟩ := h; exact ⟨v, e, hN, hb⟩
theorem getL_below : ∀ l : List UInt8, getL l < 256 ^ l.length
  | [] => by decide
  | c :: r => by
    rw [getL_cons, List.length_cons, Nat.pow_succ]
    have h1 := getL_below r
    have h2 := UInt8.toNat_lt c
    have h3 : c.toNat * 256 ^ r.length ≤ 255 * 256 ^ r.length := Nat.mul_le_mul_right _ (by omega)
    omega
theorem getT_ok (s : ByteArray) : (getT s).1.length ≤ 1000 ∧ ∀ z ∈ (getT s).1, (Lit.int .i64 z).wf = true := by
  unfold getT
  split
  · exact ⟨by simp, by simp⟩
  · split
    · exact ⟨by simp, by simp⟩
    · split
      · exact ⟨by simp, by simp⟩
      · refine ⟨by rw [timesL_length]; omega, fun z hz => ?_⟩
        unfold timesL at hz
        obtain ⟨k, _, rfl⟩ := List.mem_map.1 hz
        have h1 := getL_below ((s.data.toList.drop (1 + 6 * k)).take 6)
        have h2 : ((s.data.toList.drop (1 + 6 * k)).take 6).length ≤ 6 := by rw [List.length_take]; omega
        have h3 : 256 ^ ((s.data.toList.drop (1 + 6 * k)).take 6).length ≤ 256 ^ 6 := Nat.pow_le_pow_right (by decide) h2
        have h4 : 256 ^ 6 = 281474976710656 := by decide
        exact WalkArith.wf_i64 ⟨by omega, by omega⟩
theorem getT_vecB {xs : List Int} (h : validL xs = true) (r : ByteArray) (hr : r.data.toList = vecB xs) : getT r = (xs, 1 + 6 * (xs.length : Int), 0) := by
  have hl : r.size = 1 + 6 * xs.length := by
    have := vecB_length xs
    rw [← hr, Array.length_toList] at this
    exact this
  have hv := (validL_of h).1
  have h1 := head_vecB xs [] h
  have h2 := times_vecB xs [] h
  rw [List.append_nil, ← hr] at h1 h2
  unfold getT
  rw [if_neg (by omega)]
  simp only [h1]
  rw [if_neg (by omega), if_neg (by omega), h2]
end Go.Proofs.YthacdegaeokgnaaGreatDoor

namespace Go.Proofs.YthacdegaeokgnaaGreatDoor
open Go.RowKit

theorem ver_set_0 {w : World} {p : Nat} {t : TypeId} {key : ByteArray} {A : Option Addr} {n c : Nat} {o x kd : Int} {nu : Nat} {it : Int} {tx : ByteArray} (B : Blk w p t (verC key A n c o x kd nu it tx)) (key' : ByteArray) : Blk (w.setCell ⟨p, 0, none⟩ (.string key')) p t (verC key' A n c o x kd nu it tx) := by
  have h := B.set_ 0 (.string key')
  simpa [verC] using h
theorem ver_set_1 {w : World} {p : Nat} {t : TypeId} {key : ByteArray} {A : Option Addr} {n c : Nat} {o x kd : Int} {nu : Nat} {it : Int} {tx : ByteArray} (B : Blk w p t (verC key A n c o x kd nu it tx)) (A' : Option Addr) (n' c' : Nat) : Blk (w.setCell ⟨p, 1, none⟩ (.slice A' n' c')) p t (verC key A' n' c' o x kd nu it tx) := by
  have h := B.set_ 1 (.slice A' n' c')
  simpa [verC] using h
theorem ver_set_2 {w : World} {p : Nat} {t : TypeId} {key : ByteArray} {A : Option Addr} {n c : Nat} {o x kd : Int} {nu : Nat} {it : Int} {tx : ByteArray} (B : Blk w p t (verC key A n c o x kd nu it tx)) (o' : Int) : Blk (w.setCell ⟨p, 2, none⟩ (.int .i64 o')) p t (verC key A n c o' x kd nu it tx) := by
  have h := B.set_ 2 (.int .i64 o')
  simpa [verC] using h
theorem ver_set_3 {w : World} {p : Nat} {t : TypeId} {key : ByteArray} {A : Option Addr} {n c : Nat} {o x kd : Int} {nu : Nat} {it : Int} {tx : ByteArray} (B : Blk w p t (verC key A n c o x kd nu it tx)) (x' : Int) : Blk (w.setCell ⟨p, 3, none⟩ (.int .i64 x')) p t (verC key A n c o x' kd nu it tx) := by
  have h := B.set_ 3 (.int .i64 x')
  simpa [verC] using h
theorem ver_set_4 {w : World} {p : Nat} {t : TypeId} {key : ByteArray} {A : Option Addr} {n c : Nat} {o x kd : Int} {nu : Nat} {it : Int} {tx : ByteArray} (B : Blk w p t (verC key A n c o x kd nu it tx)) (kd' : Int) : Blk (w.setCell ⟨p, 4, none⟩ (.int .i64 kd')) p t (verC key A n c o x kd' nu it tx) := by
  have h := B.set_ 4 (.int .i64 kd')
  simpa [verC] using h
theorem ver_set_5 {w : World} {p : Nat} {t : TypeId} {key : ByteArray} {A : Option Addr} {n c : Nat} {o x kd : Int} {nu : Nat} {it : Int} {tx : ByteArray} (B : Blk w p t (verC key A n c o x kd nu it tx)) (nu' : Nat) : Blk (w.setCell ⟨p, 5, none⟩ (.float .f64 nu')) p t (verC key A n c o x kd nu' it tx) := by
  have h := B.set_ 5 (.float .f64 nu')
  simpa [verC] using h
theorem ver_set_6 {w : World} {p : Nat} {t : TypeId} {key : ByteArray} {A : Option Addr} {n c : Nat} {o x kd : Int} {nu : Nat} {it : Int} {tx : ByteArray} (B : Blk w p t (verC key A n c o x kd nu it tx)) (it' : Int) : Blk (w.setCell ⟨p, 6, none⟩ (.int .i64 it')) p t (verC key A n c o x kd nu it' tx) := by
  have h := B.set_ 6 (.int .i64 it')
  simpa [verC] using h
theorem ver_set_7 {w : World} {p : Nat} {t : TypeId} {key : ByteArray} {A : Option Addr} {n c : Nat} {o x kd : Int} {nu : Nat} {it : Int} {tx : ByteArray} (B : Blk w p t (verC key A n c o x kd nu it tx)) (tx' : ByteArray) : Blk (w.setCell ⟨p, 7, none⟩ (.string tx')) p t (verC key A n c o x kd nu it tx') := by
  have h := B.set_ 7 (.string tx')
  simpa [verC] using h
theorem ver_set8 {w : World} {p : Nat} {t : TypeId} {key : ByteArray} {A : Option Addr} {n c : Nat} {o x kd : Int} {nu : Nat} {it : Int} {tx : ByteArray} (B : Blk w p t (verC key A n c o x kd nu it tx)) (key' : ByteArray) (A' : Option Addr) (n' c' : Nat) (o' x' kd' : Int) (nu' : Nat) (it' : Int) (tx' : ByteArray) :
    Blk ((((((((w.setCell ⟨p, 0, none⟩ (.string key')).setCell ⟨p, 1, none⟩ (.slice A' n' c')).setCell ⟨p, 2, none⟩ (.int .i64 o')).setCell ⟨p, 3, none⟩ (.int .i64 x')).setCell ⟨p, 4, none⟩ (.int .i64 kd')).setCell ⟨p, 5, none⟩ (.float .f64 nu')).setCell ⟨p, 6, none⟩ (.int .i64 it')).setCell ⟨p, 7, none⟩ (.string tx')) p t (verC key' A' n' c' o' x' kd' nu' it' tx') :=
  (ver_set_7 (ver_set_6 (ver_set_5 (ver_set_4 (ver_set_3 (ver_set_2 (ver_set_1 (ver_set_0 B key') A' n' c') o') x') kd') nu') it') tx')
theorem below_set8 {w0 w : World} {p B : Nat} (h : Below B w0 w) (hp : B ≤ p) (v0 v1 v2 v3 v4 v5 v6 v7 : Value) :
    Below B w0 ((((((((w.setCell ⟨p, 0, none⟩ v0).setCell ⟨p, 1, none⟩ v1).setCell ⟨p, 2, none⟩ v2).setCell ⟨p, 3, none⟩ v3).setCell ⟨p, 4, none⟩ v4).setCell ⟨p, 5, none⟩ v5).setCell ⟨p, 6, none⟩ v6).setCell ⟨p, 7, none⟩ v7) :=
  below_setCell (below_setCell (below_setCell (below_setCell (below_setCell (below_setCell (below_setCell (below_setCell h hp _) hp _) hp _) hp _) hp _) hp _) hp _) hp _

theorem getT_n (s : ByteArray) : 0 ≤ (getT s).2.1 ∧ (getT s).2.1 ≤ 49 := by
  unfold getT
  split
  · exact ⟨by simp, by simp⟩
  · split
    · exact ⟨by simp, by simp⟩
    · split
      · exact ⟨by simp, by simp⟩
      · exact ⟨by simp; omega, by simp; omega⟩
theorem cut_list (s : ByteArray) (a b : Nat) : (s.extract a b).data.toList = (s.data.toList.drop a).take (b - a) := by
  simp [ByteArray.data_extract, Array.toList_extract, List.extract_eq_take_drop]

theorem byt_below {w w' : World} {B : Nat} {e : TypeId} {v : Value} {l : List UInt8} (h : Byt w B e v l) (hb : Below w.heap.size w w') : Byt w' B e v l := by
  refine ⟨h.1, ?_⟩
  rcases h.2 with hn | ⟨g, cap, cur, hv, hg, hh, r⟩
  · exact Or.inl hn
  · exact Or.inr ⟨g, cap, cur, hv, hg, (hb.block g (Array.getElem?_eq_some_iff.1 hh).1).trans hh, r⟩
theorem nums_set8 {w : World} {B p : Nat} {e : TypeId} {v : Value} {zs : List Int} (h : Nums w B e v zs) (hp : p < B) (v0 v1 v2 v3 v4 v5 v6 v7 : Value) :
    Nums ((((((((w.setCell ⟨p, 0, none⟩ v0).setCell ⟨p, 1, none⟩ v1).setCell ⟨p, 2, none⟩ v2).setCell ⟨p, 3, none⟩ v3).setCell ⟨p, 4, none⟩ v4).setCell ⟨p, 5, none⟩ v5).setCell ⟨p, 6, none⟩ v6).setCell ⟨p, 7, none⟩ v7) B e v zs :=
  ownsRow_setCell_below (ownsRow_setCell_below (ownsRow_setCell_below (ownsRow_setCell_below (ownsRow_setCell_below (ownsRow_setCell_below (ownsRow_setCell_below (ownsRow_setCell_below h hp v0) hp v1) hp v2) hp v3) hp v4) hp v5) hp v6) hp v7

/-! ### Worlds in which block p was turned, and new blocks were made -/
section
variable {a w w' : World} {p q : Nat}
theorem kgrow_refl (w : World) (r : Option Nat) : w.grownBy w r := ⟨rfl, rfl, rfl, Nat.le_refl _, fun _ _ _ => rfl⟩
theorem kgrow_trans (h : a.grownBy w (some p)) (h' : w.grownBy w' (some p)) : a.grownBy w' (some p) :=
  ⟨h'.os.trans h.os, h'.tape.trans h.tape, h'.output.trans h.output, Nat.le_trans h.size h'.size, fun i hi hn => (h'.block i (Nat.lt_of_lt_of_le hi h.size) hn).trans (h.block i hi hn)⟩
theorem kgrow_below (h : a.grownBy w (some p)) (hb : Below w.heap.size w w') : a.grownBy w' (some p) :=
  ⟨hb.os.trans h.os, hb.tape.trans h.tape, hb.output.trans h.output, Nat.le_trans h.size hb.size, fun i hi hn => (hb.block i (Nat.lt_of_lt_of_le hi h.size)).trans (h.block i hi hn)⟩
theorem kgrow_of_below (hb : Below w.heap.size w w') (r : Option Nat) : w.grownBy w' r := ⟨hb.os, hb.tape, hb.output, hb.size, fun i hi _ => hb.block i hi⟩
theorem kblk_by {t : TypeId} {cs : Array Value} (h : Blk w q t cs) (G : w.grownBy w' (some p)) (hn : q ≠ p) : Blk w' q t cs := h.grown G (fun e => hn (Option.some.inj e))
theorem kbelow_by {B : Nat} (h : Below B a w) (g : w.grownBy w' (some p)) (hB : B ≤ a.heap.size) (hp : B ≤ p) : Below B a w' :=
  h.grown g (Nat.le_trans hB h.size) (fun k hk => by injection hk with hk; omega)
end
end Go.Proofs.YthacdegaeokgnaaGreatDoor

namespace Go.Proofs.YthacdegaeokgnaaGreatDoor
open Go.RowKit

/-- The reader holds what is left. -/
abbrev RdAt (w : World) (p : Nat) (s : ByteArray) : Prop := Blk w p 66 #[.string s]
/-- A step gave up. -/
abbrev gaveUp : Ending := .panicked [{ v := .iface 48 (.int .i64 4), recovered := false }]

set_option maxRecDepth 100000 in
set_option maxHeartbeats 2000000 in
theorem ktake_ok (p : Nat) (s : ByteArray) (k : Nat) (w : World) (B : RdAt w p s) (hk : k ≤ s.size) (_hs : s.size ≤ 140737488351232) :
    Calls Tryz.prog 143 #[.pointer (some ⟨p, 0, none⟩), .int .i64 (k : Int)] w fun e w' => e = .returned (.string (s.extract 0 k)) ∧ RdAt w' p (s.extract k s.size) ∧ w.grownBy w' (some p) := by
  have c0 : w.cell? ⟨p, 0, none⟩ = some (.string s) := B.cell 0
  have f0 := B.frozen 0
  have hk1 : ¬ (s.size : Int) < (k : Int) := by omega
  have hk2 : (k : Int) ≤ (s.size : Int) := by omega
  have B := Lib.hid B
  clear hk
  go_enter Tryz.func143, Tryz.ntmps143
  go_wp2_with fail
  go_ret
  exact ⟨rfl, B.out.set_ 0 _, only_setCell (kgrow_refl w (some p)) (Or.inl rfl) _⟩

set_option maxRecDepth 100000 in
set_option maxHeartbeats 2000000 in
theorem ktake_short (p : Nat) (s : ByteArray) (k : Nat) (w : World) (B : RdAt w p s) (hk : s.size < k) :
    Calls Tryz.prog 143 #[.pointer (some ⟨p, 0, none⟩), .int .i64 (k : Int)] w fun e w' => e = gaveUp ∧ w' = w := by
  have c0 : w.cell? ⟨p, 0, none⟩ = some (.string s) := B.cell 0
  have hk1 : (s.size : Int) < (k : Int) := by omega
  clear hk
  go_enter Tryz.func143, Tryz.ntmps143
  go_wp2_with fail
  exact ⟨rfl, rfl, rfl⟩

set_option maxRecDepth 100000 in
set_option maxHeartbeats 2000000 in
theorem knum_ok (p : Nat) (s : ByteArray) (k : Nat) (w : World) (B : RdAt w p s) (hk : k ≤ s.size) (h1 : 1 ≤ k) (h7 : k ≤ 7) (hs : s.size ≤ 140737488351232) :
    Calls Tryz.prog 104 #[.pointer (some ⟨p, 0, none⟩), .int .i64 (k : Int)] w fun e w' => e = .returned (.int .i64 (getL (s.data.toList.take k) : Int)) ∧ RdAt w' p (s.extract k s.size) ∧ w.grownBy w' (some p) := by
  have T := Lib.hid (ktake_ok p s k w B hk hs)
  have hz : (s.extract 0 k).size = k := by simp; omega
  have G := fun W => Lib.hid (get_ok (s.extract 0 k) W (by omega) (by omega))
  rw [str_take] at G
  clear hz
  go_enter Tryz.func104, Tryz.ntmps104
  go_wp2_with fail
  refine T.out.mono ?_
  rintro e w1 ⟨rfl, B1, g1⟩
  go_wp2_with fail
  refine (G _).out.mono ?_
  rintro e w2 ⟨rfl, rfl⟩
  go_wp2_with fail
  go_ret
  exact ⟨rfl, B1, g1⟩

set_option maxRecDepth 100000 in
set_option maxHeartbeats 2000000 in
theorem knum_short (p : Nat) (s : ByteArray) (k : Nat) (w : World) (B : RdAt w p s) (hk : s.size < k) :
    Calls Tryz.prog 104 #[.pointer (some ⟨p, 0, none⟩), .int .i64 (k : Int)] w fun e w' => e = gaveUp ∧ w' = w := by
  have T := Lib.hid (ktake_short p s k w B hk)
  go_enter Tryz.func104, Tryz.ntmps104
  go_wp2_with fail
  refine T.out.mono ?_
  rintro e w1 ⟨rfl, rfl⟩
  go_wp2_with fail
  exact ⟨rfl, rfl, rfl⟩

theorem getT_room {s : ByteArray} {xs : List Int} {n er : Int} (h : getT s = (xs, n, er)) (h0 : er = 0) : ∃ k : Nat, n = (k : Int) ∧ k ≤ s.size := by
  subst h0
  unfold getT at h
  split at h
  · exact absurd (Prod.mk.inj (Prod.mk.inj h).2).2 (by decide)
  · split at h
    · exact absurd (Prod.mk.inj (Prod.mk.inj h).2).2 (by decide)
    · split at h
      · exact absurd (Prod.mk.inj (Prod.mk.inj h).2).2 (by decide)
      · rename_i h2
        refine ⟨1 + 6 * getL (s.data.toList.take 1), ?_, by omega⟩
        rw [← (Prod.mk.inj (Prod.mk.inj h).2).1]
        push_cast
        rfl

set_option maxRecDepth 100000 in
set_option maxHeartbeats 2000000 in
theorem kvec_ok (p : Nat) (s : ByteArray) (xs : List Int) (k : Nat) (w : World) (B : RdAt w p s) (hs : s.size ≤ 140737488351232) (h : getT s = (xs, (k : Int), 0)) (hk : k ≤ s.size) :
    Calls Tryz.prog 105 #[.pointer (some ⟨p, 0, none⟩)] w fun e w' => (∃ v, e = .returned v ∧ Nums w' w.heap.size 3 v xs) ∧ RdAt w' p (s.extract k s.size) ∧ w.grownBy w' (some p) := by
  have c0 : w.cell? ⟨p, 0, none⟩ = some (.string s) := B.cell 0
  have G := gvget_any s w hs
  rw [h] at G
  have G := Lib.hid G
  have B := Lib.hid B
  have T := fun W (h : RdAt W p s) => Lib.hid (ktake_ok p s k W h hk hs)
  clear h
  go_enter Tryz.func105, Tryz.ntmps105
  go_wp2_with fail
  refine G.out.mono ?_
  rintro e w1 ⟨v, rfl, hN, hb1⟩
  have B1 := Lib.hid (B.out.below hb1 B.out.lt)
  have hp : p < w.heap.size := B.out.lt
  have HN := Lib.hid hN
  have HB := Lib.hid hb1
  clear hN hb1
  go_wp2_with fail
  refine (T _ B1.out).out.mono ?_
  rintro e w2 ⟨rfl, B2, g2⟩
  have HN2 : Hid (Nums w2 w.heap.size 3 v xs) := by
    refine ⟨HN.out.1, ?_⟩
    rcases HN.out.2 with hn | ⟨g, cap, cur, hv, hg, hh, r⟩
    · exact Or.inl hn
    · exact Or.inr ⟨g, cap, cur, hv, hg, (g2.block g (Array.getElem?_eq_some_iff.1 hh).1 (fun e => by injection e with e; omega)).trans hh, r⟩
  have g3 := Lib.hid (kgrow_trans (kgrow_of_below HB.out (some p)) g2)
  clear g2
  have B2 := Lib.hid B2
  go_wp2_with fail
  go_ret
  exact ⟨⟨v, rfl, HN2.out⟩, B2.out, g3.out⟩

set_option maxRecDepth 100000 in
set_option maxHeartbeats 2000000 in
theorem kvec_bad (p : Nat) (s : ByteArray) (xs : List Int) (n er : Int) (w : World) (B : RdAt w p s) (hs : s.size ≤ 140737488351232) (h : getT s = (xs, n, er)) (h0 : er ≠ 0) :
    Calls Tryz.prog 105 #[.pointer (some ⟨p, 0, none⟩)] w fun e w' => e = gaveUp ∧ Below w.heap.size w w' := by
  have c0 : w.cell? ⟨p, 0, none⟩ = some (.string s) := B.cell 0
  have G := gvget_any s w hs
  rw [h] at G
  have G := Lib.hid G
  have h0' : (er == 0) = false := by rw [beq_eq_false_iff_ne]; exact h0
  have h1' : (er != 0) = true := by rw [bne_iff_ne]; exact h0
  clear h h0
  go_enter Tryz.func105, Tryz.ntmps105
  go_wp2_with fail
  refine G.out.mono ?_
  rintro e w1 ⟨v, rfl, hN, hb1⟩
  have HB := Lib.hid hb1
  clear hN hb1
  go_wp2_with fail
  exact ⟨rfl, rfl, HB.out⟩
end Go.Proofs.YthacdegaeokgnaaGreatDoor

namespace Go.Proofs.YthacdegaeokgnaaGreatDoor
open Go.RowKit

/-- The key at the front of bytes, as far as it goes, and what is left: at most m steps. -/
def scanL : Nat → List UInt8 → List UInt8 → List UInt8 × List UInt8
  | 0, acc, l => (acc, l)
  | m + 1, acc, c :: d :: l => if c = 0 ∧ d = 1 then (acc, c :: d :: l) else if c = 0 then scanL m (acc ++ [0]) l else scanL m (acc ++ [c]) (d :: l)
  | _ + 1, acc, l => (acc, l)

theorem scanL_head : ∀ (key acc rest : List UInt8) (m : Nat), key.length ≤ m → scanL (m + 1) acc (headL key ++ rest) = (acc ++ key, 0 :: 1 :: rest)
  | [], acc, rest, m, _ => by simp [headL, scanL]
  | c :: k, acc, rest, 0, h => by simp at h
  | c :: k, acc, rest, m + 1, h => by
    have h' : k.length ≤ m := by simpa using h
    unfold headL
    by_cases hc : c = 0
    · subst hc
      rw [if_pos rfl]
      simp only [List.cons_append]
      unfold scanL
      rw [if_neg (by rintro ⟨_, h⟩; exact absurd h (by decide)), if_pos rfl, scanL_head k (acc ++ [0]) rest m h']
      simp
    · rw [if_neg hc]
      obtain ⟨d, l, hd⟩ : ∃ d l, headL k ++ rest = d :: l := by
        cases hk : headL k ++ rest with
        | nil =>
          have := (headL_two k).1
          rw [(List.append_eq_nil_iff.1 hk).1] at this
          simp at this
        | cons d l => exact ⟨d, l, rfl⟩
      simp only [List.cons_append]
      rw [hd]
      unfold scanL
      rw [if_neg (fun h => hc h.1), if_neg hc, ← hd, scanL_head k (acc ++ [c]) rest m h']
      simp
/-- Once nothing more is read, more steps read nothing more. -/
theorem scanL_stop (m : Nat) (acc l : List UInt8) (h : l.length < 2 ∨ ∃ r, l = 0 :: 1 :: r) : scanL m acc l = (acc, l) := by
  cases m with
  | zero => rfl
  | succ m =>
    rcases h with h | ⟨r, rfl⟩
    · match l, h with
      | [], _ => rfl
      | [_], _ => rfl
    · simp [scanL]
theorem scanL_zero (m : Nat) (acc l : List UInt8) (d : UInt8) (hd : d ≠ 1) : scanL (m + 1) acc (0 :: d :: l) = scanL m (acc ++ [0]) l := by
  show (if (0 : UInt8) = 0 ∧ d = 1 then _ else _) = _
  rw [if_neg (fun h => hd h.2), if_pos rfl]
theorem scanL_one (m : Nat) (acc l : List UInt8) (c d : UInt8) (hc : c ≠ 0) : scanL (m + 1) acc (c :: d :: l) = scanL m (acc ++ [c]) (d :: l) := by
  show (if c = 0 ∧ d = 1 then _ else _) = _
  rw [if_neg (fun h => hc h.1), if_neg hc]
/-- What is read of a version's bytes. -/
theorem scanL_put (key : List UInt8) (xs : List Int) (o x : Int) (m : Nat) (h : key.length ≤ m) : scanL (m + 1) [] (putVL key xs o x) = (key, 0 :: 1 :: tailL (timeN xs o).toNat o.toNat x.toNat (vecB xs)) := by
  unfold putVL
  rw [scanL_head key [] _ m h]
  rfl
end Go.Proofs.YthacdegaeokgnaaGreatDoor

namespace Go.Proofs.YthacdegaeokgnaaGreatDoor
open Go.RowKit

/-! ### A key with its zeros told apart, from one zero to the next -/
def esc5 (l : List UInt8) : List UInt8 := l.flatMap fun c => if c = 0 then [0, 255] else [c]
theorem headL_esc5 : ∀ l : List UInt8, headL l = esc5 l ++ [0, 1]
  | [] => rfl
  | c :: l => by
    unfold headL esc5
    rw [List.flatMap_cons]
    have := headL_esc5 l
    unfold esc5 at this
    by_cases h : c = 0
    · rw [if_pos h, if_pos h, this]; rfl
    · rw [if_neg h, if_neg h, this]; rfl
theorem esc5_length (l : List UInt8) : (esc5 l).length ≤ 2 * l.length := by
  have := (headL_two l).2.2
  rw [headL_esc5, List.length_append] at this
  simp at this
  omega
theorem esc5_app (a b : List UInt8) : esc5 (a ++ b) = esc5 a ++ esc5 b := by
  unfold esc5
  rw [List.flatMap_append]
theorem esc5_clean : ∀ (a : List UInt8), (∀ c ∈ a, c ≠ 0) → esc5 a = a
  | [], _ => rfl
  | c :: a, h => by
    have := esc5_clean a (fun d hd => h d (List.mem_cons_of_mem _ hd))
    unfold esc5 at this ⊢
    rw [List.flatMap_cons, this, if_neg (h c List.mem_cons_self)]
    rfl
theorem clean_of {a : List UInt8} (h : ∀ k : Nat, a[k]? ≠ some 0) : ∀ c ∈ a, c ≠ 0 := by
  rintro c hc rfl
  obtain ⟨k, hk, e⟩ := List.getElem_of_mem hc
  exact h k (by rw [List.getElem?_eq_getElem hk, e])
theorem count_clean {a : List UInt8} (h : ∀ c ∈ a, c ≠ 0) : a.count 0 = 0 := List.count_eq_zero.2 fun hm => h 0 hm rfl
theorem clean_count {a : List UInt8} (h : a.count 0 = 0) : ∀ c ∈ a, c ≠ 0 := fun _ hc e => List.count_eq_zero.1 h (e ▸ hc)

/-- At the next zero. -/
structure NextZero (l : List UInt8) (j : Nat) : Prop where
  lt : j < l.length
  clean : ∀ c ∈ l.take j, c ≠ 0
  rest : l = l.take j ++ 0 :: l.drop (j + 1)
theorem nextZero_of {l : List UInt8} {j : Nat} (h : Lib.indexByte l 0 = (j : Int)) : NextZero l j := by
  obtain ⟨h1, h2⟩ := Lib.indexByte_some h
  have hj : j < l.length := (List.getElem?_eq_some_iff.1 h1).1
  have e : l[j] = 0 := (List.getElem?_eq_some_iff.1 h1).2
  refine ⟨hj, clean_of fun k hk => ?_, ?_⟩
  · by_cases hkj : k < j
    · rw [List.getElem?_take_of_lt hkj] at hk
      exact h2 k hkj hk
    · rw [List.getElem?_eq_none (by rw [List.length_take]; omega)] at hk
      cases hk
  · conv => lhs; rw [← List.take_append_drop j l, List.drop_eq_getElem_cons hj, e]
theorem noZero_of {l : List UInt8} (h : Lib.indexByte l 0 = -1) : ∀ c ∈ l, c ≠ 0 := clean_of (Lib.indexByte_none h)
theorem NextZero.count {l : List UInt8} {j : Nat} (h : NextZero l j) : l.count 0 = (l.drop (j + 1)).count 0 + 1 := by
  rw [h.rest]
  rw [List.count_append, count_clean h.clean, List.count_cons]
  have e : (List.drop (j + 1) (List.take j l ++ 0 :: List.drop (j + 1) l)) = List.drop (j + 1) l := by rw [← h.rest]
  rw [e]
  simp
theorem NextZero.esc {l : List UInt8} {j : Nat} (h : NextZero l j) : esc5 l = l.take j ++ [0, 255] ++ esc5 (l.drop (j + 1)) := by
  have e := congrArg esc5 h.rest
  rw [e, esc5_app, esc5_clean _ h.clean]
  have : esc5 (0 :: l.drop (j + 1)) = [0, 255] ++ esc5 (l.drop (j + 1)) := by unfold esc5; rw [List.flatMap_cons, if_pos rfl]
  rw [this, List.append_assoc]
theorem zero_next {l : List UInt8} (h : 0 < l.count 0) : ∃ j : Nat, Lib.indexByte l 0 = (j : Int) := by
  have hge := Lib.indexByte_ge l 0
  by_cases hm : Lib.indexByte l 0 = -1
  · rw [count_clean (noZero_of hm)] at h; omega
  · exact ⟨(Lib.indexByte l 0).toNat, by omega⟩

/-! ### A key read -/
/-- The key at the front of bytes, as Head writes it, and what stands behind its end. -/
def readK : List UInt8 → Option (List UInt8 × List UInt8)
  | [] => none
  | [_] => none
  | c :: d :: l =>
    if c = 0 then (if d = 1 then some ([], l) else if d = 255 then (readK l).map fun x => (0 :: x.1, x.2) else none)
    else (readK (d :: l)).map fun x => (c :: x.1, x.2)
theorem readK_end (l : List UInt8) : readK (0 :: 1 :: l) = some ([], l) := by simp [readK]
theorem readK_nought (l : List UInt8) : readK (0 :: 255 :: l) = (readK l).map fun x => (0 :: x.1, x.2) := by
  rw [readK, if_pos rfl, if_neg (by decide), if_pos rfl]
theorem readK_other (d : UInt8) (l : List UInt8) (h1 : d ≠ 1) (h2 : d ≠ 255) : readK (0 :: d :: l) = none := by
  rw [readK, if_pos rfl, if_neg h1, if_neg h2]
theorem readK_one (c : UInt8) (hc : c ≠ 0) (l : List UInt8) : readK (c :: l) = (readK l).map fun x => (c :: x.1, x.2) := by
  cases l with
  | nil => simp [readK]
  | cons d l => rw [readK, if_neg hc]
theorem readK_clean : ∀ (p l : List UInt8), (∀ c ∈ p, c ≠ 0) → readK (p ++ l) = (readK l).map fun x => (p ++ x.1, x.2)
  | [], l, _ => by simp
  | c :: p, l, h => by
    rw [List.cons_append, readK_one c (h c List.mem_cons_self), readK_clean p l (fun d hd => h d (List.mem_cons_of_mem _ hd)), Option.map_map]
    rfl
theorem readK_none {l : List UInt8} (h : ∀ c ∈ l, c ≠ 0) : readK l = none := by
  have := readK_clean l [] h
  rw [List.append_nil] at this
  rw [this]
  simp [readK]
theorem readK_head : ∀ (k r : List UInt8), readK (headL k ++ r) = some (k, r)
  | [], r => readK_end r
  | c :: k, r => by
    unfold headL
    by_cases hc : c = 0
    · rw [if_pos hc]
      simp only [List.cons_append]
      rw [readK_nought, readK_head k r, hc]
      rfl
    · rw [if_neg hc]
      simp only [List.cons_append]
      rw [readK_one c hc, readK_head k r]
      rfl
theorem readK_some : ∀ (n : Nat) (l k r : List UInt8), l.length ≤ n → readK l = some (k, r) → l = headL k ++ r
  | 0, l, k, r, hn, h => by
    have : l = [] := List.eq_nil_of_length_eq_zero (by omega)
    subst this
    simp [readK] at h
  | n + 1, [], k, r, hn, h => by simp [readK] at h
  | n + 1, [_], k, r, hn, h => by simp [readK] at h
  | n + 1, c :: d :: l, k, r, hn, h => by
    have hn1 : (d :: l).length ≤ n := by simpa using hn
    have hn2 : l.length ≤ n := by simp at hn1; omega
    by_cases hc : c = 0
    · subst hc
      by_cases hd : d = 1
      · subst hd
        rw [readK_end] at h
        cases h
        rfl
      · by_cases hd2 : d = 255
        · subst hd2
          rw [readK_nought] at h
          obtain ⟨⟨k', r'⟩, hx, hy⟩ := Option.map_eq_some_iff.1 h
          cases hy
          have := readK_some n l k' r' hn2 hx
          rw [this]
          simp [headL]
        · rw [readK_other d l hd hd2] at h
          cases h
    · rw [readK_one c hc] at h
      obtain ⟨⟨k', r'⟩, hx, hy⟩ := Option.map_eq_some_iff.1 h
      cases hy
      have := readK_some n (d :: l) k' r' hn1 hx
      rw [this, show headL (c :: k') = c :: headL k' from by rw [headL, if_neg hc]]
      rfl
theorem readK_is {l k r : List UInt8} (h : readK l = some (k, r)) : l = headL k ++ r := readK_some l.length l k r (Nat.le_refl _) h
/-- Ahead of the next zero. -/
theorem NextZero.read {l : List UInt8} {j : Nat} (h : NextZero l j) : readK l = (readK (0 :: l.drop (j + 1))).map fun x => (l.take j ++ x.1, x.2) := by
  have e := congrArg readK h.rest
  rw [e, readK_clean _ _ h.clean]
end Go.Proofs.YthacdegaeokgnaaGreatDoor

namespace Go.Proofs.YthacdegaeokgnaaGreatDoor
open Go.RowKit

theorem most_step (xs : List Int) (k : Nat) (hk : k < xs.length) : mostL (xs.take (k + 1)) = if mostL (xs.take k) < xs.getD k 0 then xs.getD k 0 else mostL (xs.take k) := by
  have e : xs.getD k 0 = xs[k] := by rw [List.getD_eq_getElem?_getD, List.getElem?_eq_getElem hk]; rfl
  unfold mostL
  rw [e, List.take_succ_eq_append_getElem hk, List.foldl_append]
  rfl

/-- What stands while a version's time is told. -/
structure VerAt (w W : World) (p : Nat) (key : ByteArray) (A : Option Addr) (n c : Nat) (o x kd : Int) (nu : Nat) (it : Int) (tx : ByteArray) : Prop where
  blk : Blk W p 28 (verC key A n c o x kd nu it tx)
  below : Below w.heap.size w W

set_option maxRecDepth 100000 in
set_option maxHeartbeats 4000000 in
theorem rtime_any (key : ByteArray) (A : Option Addr) (n c : Nat) (o x kd : Int) (nu : Nat) (it : Int) (tx : ByteArray) (xs : List Int) (w : World) (V : VerIn w key A n xs o x kd nu it tx) (hv : validL xs = true) (h0 : 0 ≤ o) (h1 : o < (xs.length : Int) ∨ o = 254) :
    Calls Tryz.prog 25 #[verV key A n c o x kd nu it tx] w fun e w' => e = .returned (.int .i64 (timeN xs o)) ∧ Below w.heap.size w w' := by
  unfold verV
  have I := Lib.hid V.ints
  have hl := V.ints.len
  have hmx := V.ints.max
  have hwv := Lib.hid (valid_mem hv)
  have hlen := (validL_of hv).1
  have B0 : Blk (w.alloc (.cells #[.string key, .slice A n c, .int .i64 o, .int .i64 x, .int .i64 kd, .float .f64 nu, .int .i64 it, .string tx] 28)) w.heap.size 28 (verC key A n c o x kd nu it tx) := Blk.new w _ _
  have hb0 : Below w.heap.size w (w.alloc (.cells #[.string key, .slice A n c, .int .i64 o, .int .i64 x, .int .i64 kd, .float .f64 nu, .int .i64 it, .string tx] 28)) := (Below.refl _ w).alloc (Nat.le_refl _) _
  obtain ⟨d0, d1, d2, d3, d4, d5, d6, d7⟩ := ver_cells B0
  clear V
  by_cases ho : o = 254
  · subst ho
    have ht : timeN xs 254 = mostL xs := by unfold timeN; rw [if_pos rfl]
    rw [ht]
    have hb0 := Lib.hid hb0
    clear B0 d0 d3 d4 d5 d6 d7 ht h1
    go_enter Tryz.func25, Tryz.ntmps25
    go_wp2_with fail
    generalize w.alloc (.cells #[.string key, .slice A n c, .int .i64 254, .int .i64 x, .int .i64 kd, .float .f64 nu, .int .i64 it, .string tx] 28) = w0 at *
    have J := Lib.hid (I.out.below hb0.out)
    go_loop [3, 4] (fun t i => ∃ k : Nat, k ≤ n ∧ i = .int .i64 (k : Int) ∧ t = .int .i64 (mostL (xs.take k))) (fun _ i => n - (intOf i).toNat)
    case atStart => exact ⟨0, by omega, rfl, rfl⟩
    case round =>
      obtain ⟨k, hk, rfl, rfl⟩ := hrel
      by_cases hlt : k < n
      · obtain ⟨b, off, rfl, _, hc⟩ := J.out.some (by omega)
        have d := hc k hlt
        have st := Lib.hid (most_step xs k (by omega))
        have hx := hwv.out _ (getD_mem (xs := xs) (j := k) (by omega))
        have h2 := mostL_nonneg (xs.take k)
        obtain ⟨y, hy⟩ : ∃ y, xs.getD k 0 = y := ⟨_, rfl⟩
        rw [hy] at d hx st
        have hl1 : (k : Int) < (n : Int) := by omega
        clear hc hy
        by_cases hk0 : k = 0
        · have hk1 : ((k : Int) == 0) = true := by rw [beq_iff_eq]; omega
          have st2 : Hid (mostL (xs.take (k + 1)) = y) := by
            have h3 := st.out
            have h4 : mostL (xs.take k) = 0 := by rw [hk0]; rfl
            rw [h4] at h3
            split at h3
            · exact h3
            · unfold Hid; omega
          clear st hk0
          generalize mostL (xs.take k) = m at *
          go_wp2_with fail
          go_round
          case rel => exact ⟨k + 1, by omega, by go_num, by rw [st2.out]⟩
          case measure => simp [intOf]; omega
        · have hk1 : ((k : Int) == 0) = false := by rw [beq_eq_false_iff_ne]; omega
          generalize mostL (xs.take k) = m at *
          by_cases hm : m < y
          · have st2 : Hid (mostL (xs.take (k + 1)) = y) := st.out.trans (if_pos hm)
            clear st
            go_wp2_with fail
            go_round
            case rel => exact ⟨k + 1, by omega, by go_num, by rw [st2.out]⟩
            case measure => simp [intOf]; omega
          · have st2 : Hid (mostL (xs.take (k + 1)) = m) := st.out.trans (if_neg hm)
            clear st
            go_wp2_with fail
            go_round
            case rel => exact ⟨k + 1, by omega, by go_num, by rw [st2.out]⟩
            case measure => simp [intOf]; omega
      · have hl1 : ¬ (k : Int) < (n : Int) := by omega
        have e : xs.take k = xs := List.take_of_length_le (by omega)
        rw [e]
        clear e
        go_wp2_with fail
        go_ret
        exact ⟨rfl, hb0.out⟩
  · have ho' : (o == 254) = false := by rw [beq_eq_false_iff_ne]; exact ho
    have hon : o < (n : Int) := by rcases h1 with h | h; omega; exact absurd h ho
    have ht : timeN xs o = xs.getD o.toNat 0 := by unfold timeN; rw [if_neg ho]
    rw [ht]
    obtain ⟨b, off, rfl, hbl, hc⟩ := I.out.some (by omega)
    have d := hc o.toNat (by omega)
    have d8 := (hb0.cell (p := ⟨b, off + o.toNat, none⟩) hbl).trans d
    obtain ⟨j, hj⟩ : ∃ j : Nat, o = (j : Int) := ⟨o.toNat, by omega⟩
    have hb0 := Lib.hid hb0
    clear B0 d0 d3 d4 d5 d6 d7 ht h1 d hc ho
    subst hj
    rw [Int.toNat_natCast] at d8 ⊢
    go_enter Tryz.func25, Tryz.ntmps25
    go_wp2_with fail
    go_ret
    exact ⟨rfl, hb0.out⟩
end Go.Proofs.YthacdegaeokgnaaGreatDoor

namespace Go.Proofs.YthacdegaeokgnaaGreatDoor
open Go.RowKit

theorem byte_eq (c d : UInt8) : ((c.toNat : Int) == (d.toNat : Int)) = decide (c = d) := by
  rw [Bool.eq_iff_iff, beq_iff_eq, decide_eq_true_eq]
  constructor
  · intro h; exact UInt8.toNat_inj.1 (by omega)
  · rintro rfl; rfl
theorem isKeyL_at (s : ByteArray) (h1 : 1 ≤ s.size) (h2 : s.size ≤ 64) (c : UInt8) (hc : s[0]'(by omega) = c) : isKeyL s.data.toList = decide (c = 114 ∨ c = 116 ∨ c = 99 ∨ c = 120 ∨ c = 110) := by
  have hlen : s.data.toList.length = s.size := (str_size s).symm
  have hd : s.data.toList.headD 0 = c := by
    rw [← hc]
    cases hx : s.data.toList with
    | nil => rw [hx] at hlen; simp at hlen; omega
    | cons a l =>
      have : s[0]'(by omega) = s.data.toList[0]'(by rw [hlen]; omega) := rfl
      rw [this]
      simp [hx]
  unfold isKeyL
  rw [hlen, hd]
  congr 1
  apply propext
  constructor
  · exact fun h => h.2
  · exact fun h => ⟨⟨h1, h2⟩, h⟩

set_option maxRecDepth 100000 in
set_option maxHeartbeats 4000000 in
theorem kiskey_any (s : ByteArray) (w : World) (hs : s.size ≤ 9223372036854775807) :
    Calls Tryz.prog 14 #[.string s] w fun e w' => e = .returned (.bool (isKeyL s.data.toList)) ∧ w' = w := by
  have hlen : s.data.toList.length = s.size := (str_size s).symm
  by_cases h1 : 1 ≤ s.size
  · by_cases h2 : s.size ≤ 64
    · have hlt : 0 < s.size := by omega
      obtain ⟨c, hc⟩ : ∃ c : UInt8, s[0]'hlt = c := ⟨_, rfl⟩
      rw [isKeyL_at s h1 h2 c hc]
      have e0 : ¬ (s.size : Int) < 1 := by omega
      have e64 : ¬ (64 : Int) < (s.size : Int) := by omega
      have q1 : ((c.toNat : Int) == 114) = decide (c = 114) := byte_eq c 114
      have q2 : ((c.toNat : Int) == 116) = decide (c = 116) := byte_eq c 116
      have q3 : ((c.toNat : Int) == 99) = decide (c = 99) := byte_eq c 99
      have q4 : ((c.toNat : Int) == 120) = decide (c = 120) := byte_eq c 120
      have q5 : ((c.toNat : Int) == 110) = decide (c = 110) := byte_eq c 110
      clear hlen h1 h2
      by_cases g1 : c = 114
      · rw [decide_eq_true g1] at q1
        rw [decide_eq_true (Or.inl g1)]
        clear q2 q3 q4 q5 g1
        go_enter Tryz.func14, Tryz.ntmps14
        go_wp2_with fail
        go_ret
        exact ⟨rfl, rfl⟩
      · rw [decide_eq_false g1] at q1
        by_cases g2 : c = 116
        · rw [decide_eq_true g2] at q2
          rw [decide_eq_true (Or.inr (Or.inl g2))]
          clear q3 q4 q5 g1 g2
          go_enter Tryz.func14, Tryz.ntmps14
          go_wp2_with fail
          go_ret
          exact ⟨rfl, rfl⟩
        · rw [decide_eq_false g2] at q2
          by_cases g3 : c = 99
          · rw [decide_eq_true g3] at q3
            rw [decide_eq_true (Or.inr (Or.inr (Or.inl g3)))]
            clear q4 q5 g1 g2 g3
            go_enter Tryz.func14, Tryz.ntmps14
            go_wp2_with fail
            go_ret
            exact ⟨rfl, rfl⟩
          · rw [decide_eq_false g3] at q3
            by_cases g4 : c = 120
            · rw [decide_eq_true g4] at q4
              rw [decide_eq_true (Or.inr (Or.inr (Or.inr (Or.inl g4))))]
              clear q5 g1 g2 g3 g4
              go_enter Tryz.func14, Tryz.ntmps14
              go_wp2_with fail
              go_ret
              exact ⟨rfl, rfl⟩
            · rw [decide_eq_false g4] at q4
              by_cases g5 : c = 110
              · rw [decide_eq_true g5] at q5
                rw [decide_eq_true (Or.inr (Or.inr (Or.inr (Or.inr g5))))]
                clear g1 g2 g3 g4 g5
                go_enter Tryz.func14, Tryz.ntmps14
                go_wp2_with fail
                go_ret
                exact ⟨rfl, rfl⟩
              · rw [decide_eq_false g5] at q5
                rw [decide_eq_false (fun h => h.elim g1 fun h => h.elim g2 fun h => h.elim g3 fun h => h.elim g4 g5)]
                clear g1 g2 g3 g4 g5
                go_enter Tryz.func14, Tryz.ntmps14
                go_wp2_with fail
                go_ret
                exact ⟨rfl, rfl⟩
    · have hk : isKeyL s.data.toList = false := by unfold isKeyL; rw [hlen]; exact decide_eq_false (by omega)
      rw [hk]
      have e0 : ¬ (s.size : Int) < 1 := by omega
      have e64 : (64 : Int) < (s.size : Int) := by omega
      clear hk hlen
      go_enter Tryz.func14, Tryz.ntmps14
      go_wp2_with fail
      go_ret
      exact ⟨rfl, rfl⟩
  · have hk : isKeyL s.data.toList = false := by unfold isKeyL; rw [hlen]; exact decide_eq_false (by omega)
    rw [hk]
    have e0 : (s.size : Int) < 1 := by omega
    clear hk hlen
    go_enter Tryz.func14, Tryz.ntmps14
    go_wp2_with fail
    go_ret
    exact ⟨rfl, rfl⟩

set_option maxRecDepth 100000 in
set_option maxHeartbeats 4000000 in
theorem kisorigin_any (o : Int) (A : Option Addr) (n c : Nat) (w : World) :
    Calls Tryz.prog 35 #[.int .i64 o, .slice A n c] w fun e w' => e = .returned (.bool (decide (o = 254 ∨ (0 ≤ o ∧ o < (n : Int))))) ∧ w' = w := by
  by_cases h1 : o = 254
  · have h1' : (o == 254) = true := by rw [beq_iff_eq]; exact h1
    rw [decide_eq_true (Or.inl h1)]
    clear h1
    go_enter Tryz.func35, Tryz.ntmps35
    go_wp2_with fail
    go_ret
    exact ⟨rfl, rfl⟩
  · have h1' : (o == 254) = false := by rw [beq_eq_false_iff_ne]; exact h1
    by_cases h2 : 0 ≤ o
    · by_cases h3 : o < (n : Int)
      · rw [decide_eq_true (Or.inr ⟨h2, h3⟩)]
        clear h1
        go_enter Tryz.func35, Tryz.ntmps35
        go_wp2_with fail
        go_ret
        exact ⟨rfl, rfl⟩
      · rw [decide_eq_false (by rintro (h | h); exact h1 h; exact h3 h.2)]
        clear h1
        go_enter Tryz.func35, Tryz.ntmps35
        go_wp2_with fail
        go_ret
        exact ⟨rfl, rfl⟩
    · rw [decide_eq_false (by rintro (h | h); exact h1 h; exact h2 h.1)]
      clear h1
      go_enter Tryz.func35, Tryz.ntmps35
      go_wp2_with fail
      go_ret
      exact ⟨rfl, rfl⟩

theorem run_max5 (m n : Int) (W : World) : (Builtin.max_ #[3, 3] 3 #[.int .i64 m, .int .i64 n]).run Tryz.prog W = .ok (.int .i64 (if m < n then n else m)) W := by
  simp [Builtin.max_, Builtin.max2]

theorem most_one {xs : List Int} (h : validL xs = true) : xs.getD 0 0 = mostL (xs.take 1) := by
  have hl := (validL_of h).1
  have h0 := (validL_of h).2 0 (by omega)
  have := most_step xs 0 (by omega)
  rw [this]
  have e : mostL (xs.take 0) = 0 := rfl
  rw [e]
  split <;> omega

set_option maxRecDepth 100000 in
set_option maxHeartbeats 4000000 in
theorem kmax_any (A : Option Addr) (n c : Nat) (xs : List Int) (w : World) (V : IntsIn w A n xs) (hv : validL xs = true) :
    Calls Tryz.prog 99 #[.slice A n c] w fun e w' => e = .returned (.int .i64 (mostL xs)) ∧ w' = w := by
  have I := Lib.hid V
  have hl := V.len
  have hmx := V.max
  have hlen := (validL_of hv).1
  have h1 := Lib.hid (most_one hv)
  obtain ⟨b, off, rfl, _, hc⟩ := I.out.some (by omega)
  have d0 := hc 0 (by omega)
  rw [h1.out, Nat.add_zero] at d0
  clear V
  have e1 : ¬ (n : Int) < 1 := by omega
  go_enter Tryz.func99, Tryz.ntmps99
  go_wp2_with fail
  clear d0 hc
  go_loop [3, 4] (fun t i => ∃ k : Nat, 1 ≤ k ∧ k ≤ n ∧ i = .int .i64 (k : Int) ∧ t = .int .i64 (mostL (xs.take k))) (fun _ i => n - (intOf i).toNat)
  case atStart => exact ⟨1, by omega, by omega, rfl, rfl⟩
  case round =>
    obtain ⟨k, hk1, hk, rfl, rfl⟩ := hrel
    by_cases hlt : k < n
    · obtain ⟨b', off', hbb, _, hc⟩ := I.out.some (by omega)
      cases hbb
      have d := hc k hlt
      have st := Lib.hid (most_step xs k (by omega))
      obtain ⟨y, hy⟩ : ∃ y, xs.getD k 0 = y := ⟨_, rfl⟩
      rw [hy] at d st
      have hl1 : (k : Int) < (n : Int) := by omega
      clear hc hy
      generalize mostL (xs.take k) = m at *
      have hmax := run_max5 m y
      rw [← st.out] at hmax
      clear st
      go_wp2_with fail
      go_round
      case rel => exact ⟨k + 1, by omega, by omega, by go_num, rfl⟩
      case measure => simp [intOf]; omega
    · have hl1 : ¬ (k : Int) < (n : Int) := by omega
      have e : xs.take k = xs := List.take_of_length_le (by omega)
      rw [e]
      clear e
      go_wp2_with fail
      go_ret
      exact ⟨rfl, rfl⟩

set_option maxRecDepth 100000 in
set_option maxHeartbeats 4000000 in
theorem ktime_any (key : ByteArray) (A : Option Addr) (n c : Nat) (o x kd : Int) (nu : Nat) (it : Int) (tx : ByteArray) (xs : List Int) (w : World) (V : VerIn w key A n xs o x kd nu it tx) (hv : validL xs = true) (h0 : 0 ≤ o) (h1 : o < (xs.length : Int) ∨ o = 254) :
    Calls Tryz.prog 22 #[verV key A n c o x kd nu it tx] w fun e w' => e = .returned (.int .i64 (timeN xs o)) ∧ Below w.heap.size w w' := by
  unfold verV
  have I := Lib.hid V.ints
  have hl := V.ints.len
  have hmx := V.ints.max
  have hlen := (validL_of hv).1
  have B0 : Blk (w.alloc (.cells #[.string key, .slice A n c, .int .i64 o, .int .i64 x, .int .i64 kd, .float .f64 nu, .int .i64 it, .string tx] 28)) w.heap.size 28 (verC key A n c o x kd nu it tx) := Blk.new w _ _
  have hb0 : Below w.heap.size w (w.alloc (.cells #[.string key, .slice A n c, .int .i64 o, .int .i64 x, .int .i64 kd, .float .f64 nu, .int .i64 it, .string tx] 28)) := (Below.refl _ w).alloc (Nat.le_refl _) _
  obtain ⟨d0, d1, d2, d3, d4, d5, d6, d7⟩ := ver_cells B0
  clear V
  by_cases ho : o = 254
  · subst ho
    have ht : timeN xs 254 = mostL xs := by unfold timeN; rw [if_pos rfl]
    rw [ht]
    have M := Lib.hid (kmax_any A n c xs _ (I.out.below hb0) hv)
    have hb0 := Lib.hid hb0
    clear B0 d0 d3 d4 d5 d6 d7 ht h1
    go_enter Tryz.func22, Tryz.ntmps22
    go_wp2_with fail
    refine M.out.mono ?_
    rintro e w' ⟨rfl, rfl⟩
    go_wp2_with fail
    go_ret
    exact ⟨rfl, hb0.out⟩
  · have ho' : (o == 254) = false := by rw [beq_eq_false_iff_ne]; exact ho
    have hon : o < (n : Int) := by rcases h1 with h | h; omega; exact absurd h ho
    have ht : timeN xs o = xs.getD o.toNat 0 := by unfold timeN; rw [if_neg ho]
    rw [ht]
    obtain ⟨b, off, rfl, hbl, hc⟩ := I.out.some (by omega)
    have d := hc o.toNat (by omega)
    have d8 := (hb0.cell (p := ⟨b, off + o.toNat, none⟩) hbl).trans d
    obtain ⟨j, hj⟩ : ∃ j : Nat, o = (j : Int) := ⟨o.toNat, by omega⟩
    have hb0 := Lib.hid hb0
    clear B0 d0 d3 d4 d5 d6 d7 ht h1 d hc ho
    subst hj
    rw [Int.toNat_natCast] at d8 ⊢
    go_enter Tryz.func22, Tryz.ntmps22
    go_wp2_with fail
    go_ret
    exact ⟨rfl, hb0.out⟩

set_option maxRecDepth 100000 in
set_option maxHeartbeats 8000000 in
theorem kvalid_any (key : ByteArray) (A : Option Addr) (n c : Nat) (o x kd : Int) (nu : Nat) (it : Int) (tx : ByteArray) (xs : List Int) (w : World) (V : VerIn w key A n xs o x kd nu it tx) :
    Calls Tryz.prog 12 #[verV key A n c o x kd nu it tx] w fun e w' => e = .returned (.bool (okV key.data.toList xs o x)) ∧ Below w.heap.size w w' := by
  unfold verV
  have hb : Hid (Below w.heap.size w (w.alloc (.cells #[.string key, .slice A n c, .int .i64 o, .int .i64 x, .int .i64 kd, .float .f64 nu, .int .i64 it, .string tx] 28))) := (Below.refl _ w).alloc (Nat.le_refl _) _
  have IK := fun W => Lib.hid (kiskey_any key W V.ks)
  have VA := Lib.hid ((valid_any A n c xs (w.alloc (.cells #[.string key, .slice A n c, .int .i64 o, .int .i64 x, .int .i64 kd, .float .f64 nu, .int .i64 it, .string tx] 28)) (V.ints.below hb.out)))
  have IO := fun W => Lib.hid (kisorigin_any o A n c W)
  have hlen := V.ints.len
  have hmx := V.ints.max
  clear V
  have hk : okV key.data.toList xs o x = (isKeyL key.data.toList && (validL xs && (decide (o = 254 ∨ (0 ≤ o ∧ o < (n : Int))) && (decide (0 ≤ x) && decide (x ≤ 281474976710655))))) := by
    unfold okV
    rw [hlen, Bool.eq_iff_iff]
    simp only [decide_eq_true_eq, Bool.and_eq_true]
    constructor
    · rintro ⟨h1, h2, h3, h4, h5⟩
      exact ⟨h1, h2, by omega, by omega, by omega⟩
    · rintro ⟨h1, h2, h3, h4, h5⟩
      exact ⟨h1, h2, by omega, by omega, by omega⟩
  rw [hk]
  clear hk
  obtain ⟨q1, h1⟩ : ∃ q, isKeyL key.data.toList = q := ⟨_, rfl⟩
  obtain ⟨q2, h2⟩ : ∃ q, validL xs = q := ⟨_, rfl⟩
  obtain ⟨q3, h3⟩ : ∃ q, decide (o = 254 ∨ (0 ≤ o ∧ o < (n : Int))) = q := ⟨_, rfl⟩
  rw [h1] at IK ⊢
  rw [h2] at VA ⊢
  rw [h3]
  simp only [h3] at IO
  clear h1 h2 h3
  cases q1
  · skip
    go_enter Tryz.func12, Tryz.ntmps12
    go_wp2_with fail
    refine (IK _).out.mono ?_
    rintro e w1 ⟨rfl, rfl⟩
    go_wp2_with fail
    go_ret
    exact ⟨by simp, hb.out⟩
  · cases q2
    · skip
      go_enter Tryz.func12, Tryz.ntmps12
      go_wp2_with fail
      refine (IK _).out.mono ?_
      rintro e w1 ⟨rfl, rfl⟩
      go_wp2_with fail
      refine VA.out.mono ?_
      rintro e w1 ⟨rfl, rfl⟩
      go_wp2_with fail
      go_ret
      exact ⟨by simp, hb.out⟩
    · cases q3
      · skip
        go_enter Tryz.func12, Tryz.ntmps12
        go_wp2_with fail
        refine (IK _).out.mono ?_
        rintro e w1 ⟨rfl, rfl⟩
        go_wp2_with fail
        refine VA.out.mono ?_
        rintro e w1 ⟨rfl, rfl⟩
        go_wp2_with fail
        refine (IO _).out.mono ?_
        rintro e w1 ⟨rfl, rfl⟩
        go_wp2_with fail
        go_ret
        exact ⟨by simp, hb.out⟩
      · by_cases g4 : 0 ≤ x
        · rw [decide_eq_true g4]
          obtain ⟨q5, h5⟩ : ∃ q, decide (x ≤ 281474976710655) = q := ⟨_, rfl⟩
          rw [h5]
          go_enter Tryz.func12, Tryz.ntmps12
          go_wp2_with fail
          refine (IK _).out.mono ?_
          rintro e w1 ⟨rfl, rfl⟩
          go_wp2_with fail
          refine VA.out.mono ?_
          rintro e w1 ⟨rfl, rfl⟩
          go_wp2_with fail
          refine (IO _).out.mono ?_
          rintro e w1 ⟨rfl, rfl⟩
          go_wp2_with fail
          go_ret
          exact ⟨by simp, hb.out⟩
        · rw [decide_eq_false g4]
          go_enter Tryz.func12, Tryz.ntmps12
          go_wp2_with fail
          refine (IK _).out.mono ?_
          rintro e w1 ⟨rfl, rfl⟩
          go_wp2_with fail
          refine VA.out.mono ?_
          rintro e w1 ⟨rfl, rfl⟩
          go_wp2_with fail
          refine (IO _).out.mono ?_
          rintro e w1 ⟨rfl, rfl⟩
          go_wp2_with fail
          go_ret
          exact ⟨by simp, hb.out⟩
end Go.Proofs.YthacdegaeokgnaaGreatDoor

namespace Go.Proofs.YthacdegaeokgnaaGreatDoor
open Go.RowKit

/-- The byte 0 alone. -/
abbrev zeroB : ByteArray := ⟨#[0]⟩
/-- What stands for it. -/
abbrev noughtB : ByteArray := ⟨#[0, 255]⟩

set_option maxRecDepth 100000 in
set_option maxHeartbeats 4000000 in
theorem krepl_none (s : ByteArray) (w : World) (hc : s.data.toList.count 0 = 0) :
    Calls Tryz.prog 109 #[.string s, .string zeroB, .string noughtB, .int .i64 (-1)] w fun e w' => e = .returned (.string s) ∧ w' = w := by
  have C := Lib.hid (Tryz.strings_Count_one s 0 w)
  have hz : Lib.countByte s.data.toList 0 = 0 := hc
  rw [hz] at C
  have hne : (zeroB.toList == noughtB.toList) = false := by rw [str_eq]; decide
  clear hc hz
  go_enter Tryz.func109, Tryz.ntmps109
  go_wp2_with fail
  refine C.out.mono ?_
  rintro e w' ⟨rfl, rfl⟩
  go_wp2_with fail
  go_ret
  exact ⟨rfl, rfl⟩

theorem take_in (s : ByteArray) (a j : Nat) : ((s.extract a (a + j)).data.toList) = (s.data.toList.drop a).take j := by
  rw [Lib.extract_data, Nat.add_sub_cancel_left]
theorem drop_in (s : ByteArray) (a : Nat) : ((s.extract a s.size).data.toList) = s.data.toList.drop a := by
  rw [Lib.extract_data, List.take_of_length_le]
  rw [List.length_drop, str_size]
  exact Nat.le_refl _

set_option maxRecDepth 100000 in
set_option maxHeartbeats 8000000 in
theorem krepl_some (s : ByteArray) (w : World) (hs : s.size ≤ 1000000000) (hc : 0 < s.data.toList.count 0) :
    Calls Tryz.prog 109 #[.string s, .string zeroB, .string noughtB, .int .i64 (-1)] w fun e w' => e = .returned (.string ⟨(esc5 s.data.toList).toArray⟩) ∧ Below w.heap.size w w' := by
  have hlen : s.data.toList.length = s.size := (str_size s).symm
  obtain ⟨K, hK⟩ : ∃ K : Nat, s.data.toList.count 0 = K := ⟨_, rfl⟩
  have C := Lib.hid (Tryz.strings_Count_one s 0 w)
  have hz : Lib.countByte s.data.toList 0 = K := hK
  rw [hz] at C
  have hKs : K ≤ s.size := by rw [← hK, ← hlen]; exact List.count_le_length
  have hne : (zeroB.toList == noughtB.toList) = false := by rw [str_eq]; decide
  have hk0 : ((K : Int) == 0) = false := by rw [beq_eq_false_iff_ne]; omega
  have HK := Lib.hid hK
  have Hlen := Lib.hid hlen
  clear hc hz hK hlen
  go_enter Tryz.func109, Tryz.ntmps109
  go_wp2_with fail
  refine C.out.mono ?_
  rintro e w' ⟨rfl, rfl⟩
  clear C
  have G := Tryz.Builder_Grow_fresh w'.heap.size w'.heap.size (s.size + K) (w'.alloc (.cells #[.pointer none, .slice none 0 0] 109)) (Nat.le_refl _) (heap_alloc_new w' _) (by simp) (by omega)
  rw [show ((s.size + K : Nat) : Int) = (s.size : Int) + (K : Int) from by push_cast; rfl] at G
  have G := Lib.hid G
  go_wp2_with fail
  refine G.out.mono ?_
  rintro e w1 ⟨rfl, hb0, hb1⟩
  have B1 : Hid (IsB w'.heap.size w'.heap.size (Lib.byteCells []) w1) := Or.inr hb0
  have HB1 : Hid (Below w'.heap.size w' w1) := ((Below.refl _ w').alloc (Nat.le_refl _) _).trans hb1
  clear hb0 hb1 G
  go_wp2_with fail
  go_loopw [11, 53] (fun s11 s53 wr => ∃ (i start : Nat) (acc : List UInt8), s53 = .int .i64 (i : Int) ∧ s11 = .int .i64 (start : Int) ∧ i ≤ K ∧ start ≤ s.size ∧ acc.length ≤ start + i ∧ Hid (IsB w'.heap.size w'.heap.size (Lib.byteCells acc) wr) ∧ Hid (Below w'.heap.size w' wr) ∧
      Hid (esc5 s.data.toList = acc ++ esc5 (s.data.toList.drop start)) ∧ Hid ((s.data.toList.drop start).count 0 + i = K)) (fun _ i _ => K - (intOf i).toNat)
  case atStart => exact ⟨0, 0, [], rfl, rfl, by omega, by omega, by simp, B1, HB1, rfl, HK.out⟩
  case round =>
    obtain ⟨i, start, acc, rfl, rfl, hi, hst, hal, HB, HW, HE, HC⟩ := hrel
    have hBw : w'.heap.size ≤ wr.heap.size := HW.out.size
    have c1 : (0 : Int) ≤ (start : Int) := by omega
    have c2 : (start : Int) ≤ (s.size : Int) := by omega
    by_cases hlt : i < K
    · have hl1 : (i : Int) < (K : Int) := by omega
      obtain ⟨j, hj⟩ := zero_next (l := s.data.toList.drop start) (by have := HC.out; omega)
      have NZ := Lib.hid (nextZero_of hj)
      have hjl : start + j < s.size := by
        have h1 := NZ.out.lt
        have h2 := Hlen.out
        rw [List.length_drop] at h1
        omega
      have IX := Tryz.strings_Index_one (s.extract start s.size) 0 wr
      rw [drop_in, hj] at IX
      have IX := Lib.hid IX
      have c3 : (start : Int) ≤ (start : Int) + (j : Int) := by omega
      have c4 : (start : Int) + (j : Int) ≤ (s.size : Int) := by omega
      have Hj := Lib.hid hj
      clear hj
      go_wp2_with fail
      refine IX.out.mono ?_
      rintro e w2 ⟨rfl, rfl⟩
      clear IX
      go_wp2_with fail
      have htl : ((s.data.toList.drop start).take j).length = j := by rw [List.length_take, List.length_drop, Hlen.out]; omega
      refine (bstr_any w'.heap.size w'.heap.size _ (s.extract start (start + j)) w2 HB.out (by rw [Lib.byteCells_length, ByteArray.size_extract]; omega) hBw).mono ?_
      rintro e w3 ⟨rfl, h3, hb3⟩
      rw [Lib.strCells_eq, take_in, ← Lib.byteCells_append] at h3
      have H3 := Lib.hid h3
      have HW3 := Lib.hid (HW.out.trans hb3)
      have hBw3 : w'.heap.size ≤ w3.heap.size := HW3.out.size
      clear h3 hb3 HB HW hBw
      go_wp2_with fail
      refine (bstr_any w'.heap.size w'.heap.size _ noughtB w3 H3.out (by rw [Lib.byteCells_length, List.length_append, htl, show noughtB.size = 2 from rfl]; omega) hBw3).mono ?_
      rintro e w4 ⟨rfl, h4, hb4⟩
      rw [Lib.strCells_eq, ← Lib.byteCells_append] at h4
      have H4 := Lib.hid h4
      have HW4 := Lib.hid (HW3.out.trans hb4)
      clear h4 hb4 H3 HW3 hBw3
      go_wp2_with fail
      go_roundw
      case rel =>
        refine ⟨i + 1, start + j + 1, (acc ++ (s.data.toList.drop start).take j) ++ [0, 255], by go_num, by go_num, by omega, by omega, ?_, H4.out, HW4.out, ?_, ?_⟩
        · rw [List.length_append, List.length_append, htl]
          simp
          omega
        · unfold Hid
          rw [HE.out, NZ.out.esc, List.drop_drop, List.append_assoc, List.append_assoc, List.append_assoc, Nat.add_assoc]
        · have h1 := HC.out
          rw [NZ.out.count, List.drop_drop, ← Nat.add_assoc] at h1
          unfold Hid
          omega
      case measure => simp [intOf]; omega
    · have hl1 : ¬ (i : Int) < (K : Int) := by omega
      have h0 : (s.data.toList.drop start).count 0 = 0 := by have := HC.out; omega
      have he : Hid (esc5 s.data.toList = acc ++ s.data.toList.drop start) := by
        unfold Hid
        rw [HE.out, esc5_clean _ (clean_count h0)]
      clear h0 HC HE
      go_wp2_with fail
      refine (bstr_any w'.heap.size w'.heap.size _ (s.extract start s.size) wr HB.out (by rw [Lib.byteCells_length, ByteArray.size_extract]; omega) hBw).mono ?_
      rintro e w3 ⟨rfl, h3, hb3⟩
      rw [Lib.strCells_eq, drop_in, ← Lib.byteCells_append, ← he.out] at h3
      have H3 := Lib.hid h3
      have HW3 := Lib.hid (HW.out.trans hb3)
      have hBw3 : w'.heap.size ≤ w3.heap.size := HW3.out.size
      clear h3 hb3 HB HW hBw
      go_wp2_with fail
      refine (Tryz.Builder_String_any w'.heap.size w'.heap.size _ w3 H3.out hBw3).mono ?_
      rintro e w4 ⟨rfl, hb4⟩
      have HW4 := Lib.hid (HW3.out.trans hb4)
      clear hb4
      go_wp2_with fail
      go_ret
      exact ⟨rfl, HW4.out⟩

theorem kcat (a b : List UInt8) (ha : a.length ≤ 1000000) (hb : b.length ≤ 1000000) (w : World) : (Op.stringOp .add ⟨a.toArray⟩ ⟨b.toArray⟩).run Tryz.prog w = .ok (.string ⟨(a ++ b).toArray⟩) w := by
  rw [run_string_add_sum _ _ _ (by rw [size_mk, size_mk]; omega), ByteArray.mk_append_mk]

/-- Each byte 0 as the two bytes 0 and 255. -/
theorem krepl_any (s : ByteArray) (w : World) (hs : s.size ≤ 1000000000) :
    Calls Tryz.prog 109 #[.string s, .string zeroB, .string noughtB, .int .i64 (-1)] w fun e w' => e = .returned (.string ⟨(esc5 s.data.toList).toArray⟩) ∧ Below w.heap.size w w' := by
  by_cases hc : s.data.toList.count 0 = 0
  · refine (krepl_none s w hc).mono ?_
    rintro e w' ⟨rfl, rfl⟩
    refine ⟨?_, Below.refl _ _⟩
    rw [esc5_clean _ (clean_count hc)]
  · exact krepl_some s w hs (by omega)

set_option maxRecDepth 100000 in
set_option maxHeartbeats 2000000 in
theorem kreplall_any (s : ByteArray) (w : World) (hs : s.size ≤ 1000000000) :
    Calls Tryz.prog 37 #[.string s, .string zeroB, .string noughtB] w fun e w' => e = .returned (.string ⟨(esc5 s.data.toList).toArray⟩) ∧ Below w.heap.size w w' := by
  have C := Lib.hid (krepl_any s w hs)
  go_enter Tryz.func37, Tryz.ntmps37
  go_wp2_with fail
  refine C.out.mono ?_
  rintro e w' ⟨rfl, hb⟩
  go_wp2_with fail
  go_ret
  exact ⟨rfl, hb⟩

set_option maxRecDepth 100000 in
set_option maxHeartbeats 2000000 in
theorem khead_any (s : ByteArray) (w : World) (hs : s.size ≤ 100000) :
    Calls Tryz.prog 16 #[.string s] w fun e w' => e = .returned (.string ⟨(headL s.data.toList).toArray⟩) ∧ Below w.heap.size w w' := by
  have C := Lib.hid (kreplall_any s w (by omega))
  have hl := esc5_length s.data.toList
  rw [← str_size] at hl
  rw [headL_esc5]
  generalize esc5 s.data.toList = l at *
  have hsz : (⟨l.toArray⟩ : ByteArray).size ≤ 200000 := by rw [size_mk]; omega
  have hcat := kcat l [0, 1] (by rw [size_mk] at hsz; omega) (by decide)
  go_enter Tryz.func16, Tryz.ntmps16
  go_wp2_with fail
  refine C.out.mono ?_
  rintro e w' ⟨rfl, hb⟩
  go_wp2_with fail
  go_ret
  exact ⟨rfl, hb⟩
end Go.Proofs.YthacdegaeokgnaaGreatDoor

namespace Go.Proofs.YthacdegaeokgnaaGreatDoor
open Go.RowKit

theorem be_getL : ∀ l : List UInt8, be (getL l) l.length = l
  | [] => by simp [be]
  | c :: r => by
    have h1 := getL_below r
    have h2 := UInt8.toNat_lt c
    have hp : 256 ^ r.length = 2 ^ (8 * r.length) := by rw [show (256 : Nat) = 2 ^ 8 from rfl, ← Nat.pow_mul]
    have hpos : 0 < 256 ^ r.length := Nat.pow_pos (by decide)
    rw [List.length_cons, be_succ, be_mod, getL_cons, ← hp]
    have e1 : (c.toNat * 256 ^ r.length + getL r) / 256 ^ r.length = c.toNat := by
      rw [Nat.mul_comm, Nat.mul_add_div hpos, Nat.div_eq_of_lt h1, Nat.add_zero]
    have e2 : (c.toNat * 256 ^ r.length + getL r) % 256 ^ r.length = getL r := by
      rw [Nat.mul_comm, Nat.mul_add_mod, Nat.mod_eq_of_lt h1]
    rw [e1, e2, be_getL r, Nat.mod_eq_of_lt (by omega)]
    congr 1
    exact UInt8.ofNat_toNat
theorem be_of {l : List UInt8} {n : Nat} (h : l.length = n) : be (getL l) n = l := by rw [← h]; exact be_getL l

theorem chunks : ∀ (m : Nat) (l : List UInt8), l.length = 6 * m → ((List.range m).map fun i => (l.drop (6 * i)).take 6).flatten = l
  | 0, l, h => by
    have : l = [] := List.eq_nil_of_length_eq_zero (by omega)
    subst this
    rfl
  | m + 1, l, h => by
    have ih := chunks m (l.drop 6) (by rw [List.length_drop]; omega)
    rw [List.range_succ_eq_map, List.map_cons, List.map_map, List.flatten_cons]
    have e : ((fun i => (l.drop (6 * i)).take 6) ∘ Nat.succ) = fun i => ((l.drop 6).drop (6 * i)).take 6 := by
      funext i
      show (l.drop (6 * (i + 1))).take 6 = _
      rw [List.drop_drop, Nat.mul_add, Nat.add_comm]
    rw [e, ih, Nat.mul_zero, List.drop_zero, List.take_append_drop]
/-- Bytes that are got as a vector, wholly, are the vector's. -/
theorem vecB_of (s : ByteArray) (xs : List Int) (h : getT s = (xs, (s.size : Int), 0)) : s.data.toList = vecB xs := by
  unfold getT at h
  split at h
  · exact absurd (Prod.mk.inj (Prod.mk.inj h).2).2 (by decide)
  · split at h
    · exact absurd (Prod.mk.inj (Prod.mk.inj h).2).2 (by decide)
    · split at h
      · exact absurd (Prod.mk.inj (Prod.mk.inj h).2).2 (by decide)
      · rename_i h0 h1 h2
        obtain ⟨e1, e2⟩ := Prod.mk.inj h
        obtain ⟨e2, _⟩ := Prod.mk.inj e2
        obtain ⟨m, hm⟩ : ∃ m, getL (s.data.toList.take 1) = m := ⟨_, rfl⟩
        rw [hm] at e1 e2 h1 h2
        have hsz : s.data.toList.length = 1 + 6 * m := by rw [← str_size]; omega
        cases hd : s.data.toList with
        | nil => rw [hd] at hsz; simp at hsz; omega
        | cons c r =>
          rw [hd] at hm e1 hsz
          have hr : r.length = 6 * m := by simp at hsz; omega
          have hc : c = UInt8.ofNat m := by
            have := be_of (l := (c :: r).take 1) (n := 1) (by simp)
            rw [hm, be_succ m 0, Nat.mul_zero, Nat.pow_zero, Nat.div_one, Nat.mod_eq_of_lt (by omega)] at this
            exact (List.cons.inj this).1.symm
          subst e1
          unfold vecB
          rw [timesL_length, ← hc]
          congr 1
          unfold timesL
          rw [List.map_map]
          have ch := chunks m r hr
          conv => lhs; rw [← ch]
          congr 1
          apply List.map_congr_left
          intro i hi
          have him : i < m := List.mem_range.1 hi
          have hl : ((r.drop (6 * i)).take 6).length = 6 := by rw [List.length_take, List.length_drop]; omega
          show _ = be (((getL (((c :: r).drop (1 + 6 * i)).take 6) : Nat) : Int).toNat) 6
          rw [Int.toNat_natCast, Nat.add_comm 1, List.drop_succ_cons, be_of hl]

/-- The parts behind a key's head make a version's bytes. -/
theorem put_of_parts {data r k : List UInt8} {xs : List Int} (hk : readK data = some (k, r)) (hl : 13 ≤ r.length) (hv : r.drop 13 = vecB xs)
    (h : OkV k xs (255 - (getL ((r.drop 6).take 1) : Int)) (281474976710655 - (getL ((r.drop 7).take 6) : Int))) (ht : timeN xs (255 - (getL ((r.drop 6).take 1) : Int)) = 281474976710655 - (getL (r.take 6) : Int)) :
    data = putVL k xs (255 - (getL ((r.drop 6).take 1) : Int)) (281474976710655 - (getL ((r.drop 7).take 6) : Int)) := by
  have e := readK_is hk
  have t := h.time
  have o1 := h.o0
  have o2 := h.o255
  have x1 := h.x0
  have x2 := h.x1
  have l1 : (r.take 6).length = 6 := by rw [List.length_take]; omega
  have l2 : ((r.drop 6).take 1).length = 1 := by rw [List.length_take, List.length_drop]; omega
  have l3 : ((r.drop 7).take 6).length = 6 := by rw [List.length_take, List.length_drop]; omega
  have er : r = r.take 6 ++ ((r.drop 6).take 1 ++ ((r.drop 7).take 6 ++ r.drop 13)) := by
    have a1 : (r.drop 7).take 6 ++ r.drop 13 = r.drop 7 := by
      have := List.take_append_drop 6 (r.drop 7)
      rwa [List.drop_drop] at this
    have a2 : (r.drop 6).take 1 ++ r.drop 7 = r.drop 6 := by
      have := List.take_append_drop 1 (r.drop 6)
      rwa [List.drop_drop] at this
    rw [a1, a2, List.take_append_drop]
  unfold putVL tailL
  rw [e]
  congr 1
  conv => lhs; rw [er]
  rw [hv]
  rw [ht] at t ⊢
  rw [show 281474976710655 - (281474976710655 - (getL (r.take 6) : Int)).toNat = getL (r.take 6) by omega, be_of l1,
    show 255 - (255 - (getL ((r.drop 6).take 1) : Int)).toNat = getL ((r.drop 6).take 1) by omega, be_of l2,
    show 281474976710655 - (281474976710655 - (getL ((r.drop 7).take 6) : Int)).toNat = getL ((r.drop 7).take 6) by omega, be_of l3]
/-- The parts of a version's bytes. -/
structure Parts (r : List UInt8) (xs : List Int) (o x : Int) : Prop where
  len : r.length = 14 + 6 * xs.length
  time : 281474976710655 - (getL (r.take 6) : Int) = timeN xs o
  org : 255 - (getL ((r.drop 6).take 1) : Int) = o
  num : 281474976710655 - (getL ((r.drop 7).take 6) : Int) = x
  vec : r.drop 13 = vecB xs
theorem parts_of_put {data key : List UInt8} {xs : List Int} {o x : Int} (h : OkV key xs o x) (e : data = putVL key xs o x) : ∃ r, readK data = some (key, r) ∧ Parts r xs o x := by
  refine ⟨tailL (timeN xs o).toNat o.toNat x.toNat (vecB xs), ?_, ?_⟩
  · rw [e]
    exact readK_head _ _
  · have t := h.time
    have a1 := h.o0
    have a2 := h.o255
    have b1 := h.x0
    have b2 := h.x1
    have l1 := be_length (281474976710655 - (timeN xs o).toNat) 6
    have l2 := be_length (255 - o.toNat) 1
    have l3 := be_length (281474976710655 - x.toNat) 6
    have g1 := getL_be 6 (281474976710655 - (timeN xs o).toNat) (by omega)
    have g2 := getL_be 1 (255 - o.toNat) (by omega)
    have g3 := getL_be 6 (281474976710655 - x.toNat) (by omega)
    have hv := vecB_length xs
    unfold tailL
    generalize be (281474976710655 - (timeN xs o).toNat) 6 = B1 at *
    generalize be (255 - o.toNat) 1 = B2 at *
    generalize be (281474976710655 - x.toNat) 6 = B3 at *
    have d6 : (B1 ++ (B2 ++ (B3 ++ vecB xs))).drop 6 = B2 ++ (B3 ++ vecB xs) := by rw [← l1, List.drop_left]
    have d7 : (B1 ++ (B2 ++ (B3 ++ vecB xs))).drop 7 = B3 ++ vecB xs := by
      rw [← List.append_assoc, show 7 = (B1 ++ B2).length by rw [List.length_append]; omega, List.drop_left]
    have d13 : (B1 ++ (B2 ++ (B3 ++ vecB xs))).drop 13 = vecB xs := by
      rw [← List.append_assoc, ← List.append_assoc, show 13 = (B1 ++ B2 ++ B3).length by rw [List.length_append, List.length_append]; omega, List.drop_left]
    refine ⟨?_, ?_, ?_, ?_, d13⟩
    · simp only [List.length_append]
      omega
    · rw [show 6 = B1.length from l1.symm, List.take_left, g1]
      omega
    · rw [d6, show 1 = B2.length from l2.symm, List.take_left, g2]
      omega
    · rw [d7, show 6 = B3.length from l3.symm, List.take_left, g3]
      omega
end Go.Proofs.YthacdegaeokgnaaGreatDoor
