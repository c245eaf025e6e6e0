/-
  RealOrder: the order of numbers is that of their bytes; it goes on; where Go tells one to be less it is less.
-/
import Derived.Test.YtahofbnebmoopaaDoorAliveR
import Derived.Test.YtahofbnebmoopaaDoorF64q
namespace Go.Proofs.YtahofbnebmoopaaDoor
open Go.RowKit

theorem be_rank_cmp (a b : Nat) (ha : a < 18446744073709551616) (hb : b < 18446744073709551616) : Lib.compareBytes (be (rankN a) 8) (be (rankN b) 8) = cmpN a b := by
  have h := be_cmp 8 (rankN a) (rankN b) (rankN_lt a ha) (rankN_lt b hb)
  rw [h]
  unfold cmpN
  split
  · rfl
  · split
    · rw [if_neg (by omega)]
    · rw [if_pos (by omega)]

/-- The ways that three numbers stand to each other, as the law parts them. -/
def OrdIs (x y z : Int) (l g e1 e2 : Bool) : Prop :=
  (x = 1 ∧ l = false ∧ e1 = true) ∨
  (x = 0 ∧ l = false ∧ g = false ∧ (y = 1 ∨ (y ≤ 0 ∧ z ≤ 0)) ∧ (e1 = true ∨ (e1 = false ∧ e2 = true))) ∨
  (x = -1 ∧ g = false ∧ (y = 1 ∨ (y = 0 ∧ z ≤ 0) ∨ (y = -1 ∧ z = -1)) ∧ (e1 = true ∨ (e1 = false ∧ e2 = false)))

theorem ordIs (a b c : Nat) (ha : a < 18446744073709551616) (hb : b < 18446744073709551616) :
    OrdIs (cmpN a b) (cmpN b c) (cmpN a c) (FloatKind.f64.format.order a b == some .lt) (FloatKind.f64.format.order a b == some .gt) (!isN a) (isN b) := by
  rw [lss_eq, gtr_eq]
  have hbc : (rankN b ≤ rankN c → cmpN b c ≤ 0) := cmp_le
  have hac : (rankN a ≤ rankN c → cmpN a c ≤ 0) := cmp_le
  unfold OrdIs
  rcases Nat.lt_trichotomy (rankN a) (rankN b) with h | h | h
  · refine Or.inr (Or.inr ⟨cmpN_lt h, ?_, ?_, ?_⟩)
    · cases na : isN a <;> cases nb : isN b <;> simp
      obtain ⟨r1, r2, r3, r4⟩ := rank_cases a b ha hb na nb
      rcases Int.lt_trichotomy (nkey a) (nkey b) with k | k | k
      · omega
      · omega
      · have := r2 k; omega
    · rcases Nat.lt_trichotomy (rankN b) (rankN c) with k | k | k
      · exact Or.inr (Or.inr ⟨cmpN_lt k, cmpN_lt (by omega)⟩)
      · exact Or.inr (Or.inl ⟨cmpN_eq k, hac (by omega)⟩)
      · exact Or.inl (cmpN_gt k)
    · cases na : isN a
      · exact Or.inl rfl
      · refine Or.inr ⟨rfl, ?_⟩
        cases nb : isN b
        · rfl
        · rw [rank_nan a na, rank_nan b nb] at h; omega
  · refine Or.inr (Or.inl ⟨cmpN_eq h, ?_, ?_, ?_, ?_⟩)
    · cases na : isN a <;> cases nb : isN b <;> simp
      obtain ⟨r1, r2, r3, r4⟩ := rank_cases a b ha hb na nb
      rcases Int.lt_trichotomy (nkey a) (nkey b) with k | k | k
      · have := r1 k; omega
      · omega
      · omega
    · cases na : isN a <;> cases nb : isN b <;> simp
      obtain ⟨r1, r2, r3, r4⟩ := rank_cases a b ha hb na nb
      rcases Int.lt_trichotomy (nkey a) (nkey b) with k | k | k
      · omega
      · omega
      · have := r2 k; omega
    · rcases Nat.lt_or_ge (rankN c) (rankN b) with k | k
      · exact Or.inl (cmpN_gt k)
      · exact Or.inr ⟨hbc k, hac (by omega)⟩
    · cases na : isN a
      · exact Or.inl rfl
      · refine Or.inr ⟨rfl, ?_⟩
        cases nb : isN b
        · have := rank_pos b hb nb; rw [rank_nan a na] at h; omega
        · rfl
  · refine Or.inl ⟨cmpN_gt h, ?_, ?_⟩
    · cases na : isN a <;> cases nb : isN b <;> simp
      obtain ⟨r1, r2, r3, r4⟩ := rank_cases a b ha hb na nb
      rcases Int.lt_trichotomy (nkey a) (nkey b) with k | k | k
      · have := r1 k; omega
      · omega
      · omega
    · cases na : isN a
      · rfl
      · rw [rank_nan a na] at h; omega

set_option maxRecDepth 100000 in
set_option maxHeartbeats 16000000 in
theorem lawRealOrder (a : Nat) (ha : (Lit.float .f64 a).wf = true) (b : Nat) (hb : (Lit.float .f64 b).wf = true) (c : Nat) (hc : (Lit.float .f64 c).wf = true) (w : World) (hL : LaidR w) :
    Calls Tryd.prog 9 #[.float .f64 a, .float .f64 b, .float .f64 c] w fun e w' => e = .returned (.bool true) ∧ Below w.heap.size w w' := by
  have ha := wf_f64 ha
  have hb := wf_f64 hb
  have hc := wf_f64 hc
  have hO := ordIs a b c ha hb
  have e1 := eql_self a
  have e2 := neq_self b
  have hlb := be_rank_cmp a b ha hb
  have C1 := fun W => Lib.hid (fcompare_any a b ha hb W)
  have C2 := fun W => Lib.hid (fcompare_any b c hb hc W)
  have C3 := fun W => Lib.hid (fcompare_any a c ha hc W)
  have C4 := fun W => (fcompare_any b a hb ha W)
  rw [cmpN_swap] at C4
  have C4 := fun W => Lib.hid (C4 W)
  have C5 := fun W => Lib.hid (fput_any a ha W)
  have C6 := fun W => Lib.hid (fput_any b hb W)
  have C7 := fun W => compare_any ⟨(be (rankN a) 8).toArray⟩ ⟨(be (rankN b) 8).toArray⟩ W
  rw [show (⟨(be (rankN a) 8).toArray⟩ : ByteArray).data.toList = be (rankN a) 8 from rfl, show (⟨(be (rankN b) 8).toArray⟩ : ByteArray).data.toList = be (rankN b) 8 from rfl, hlb] at C7
  have C7 := fun W => Lib.hid (C7 W)
  have C8 := fun W => Lib.hid (fsame_any a b ha hb W)
  have Al := fun W hb => Lib.hid (aliveR_any W (hL.on hb))
  generalize be (rankN a) 8 = p at *
  generalize be (rankN b) 8 = q at *
  clear hlb ha hb hc hL
  generalize cmpN a b = x at *
  generalize cmpN b c = y at *
  generalize cmpN a c = z at *
  generalize hl : (FloatKind.f64.format.order a b == some .lt) = l at *
  generalize hg : (FloatKind.f64.format.order a b == some .gt) = g at *
  generalize (!isN a) = f1 at *
  generalize isN b = f2 at *
  rcases hO with ⟨rfl, rfl, rfl⟩ | ⟨rfl, rfl, rfl, rfl | ⟨hy, hz⟩, rfl | ⟨rfl, rfl⟩⟩ | ⟨rfl, rfl, rfl | ⟨rfl, hz⟩ | ⟨rfl, rfl⟩, rfl | ⟨rfl, rfl⟩⟩
  all_goals try cases l
  all_goals try cases g
  all_goals
    go_enter Tryd.func9, Tryd.ntmps9
    go_wp2_with fail
    refine (C1 _).out.mono ?_
    rintro e w' ⟨rfl, rfl⟩
    go_wp2_with fail
    refine (C2 _).out.mono ?_
    rintro e w' ⟨rfl, rfl⟩
    go_wp2_with fail
    refine (C3 _).out.mono ?_
    rintro e w' ⟨rfl, rfl⟩
    go_wp2_with fail
    refine (C5 _).out.mono ?_
    rintro e w5 ⟨rfl, hb5⟩
    go_wp2_with fail
    refine (C6 _).out.mono ?_
    rintro e w6 ⟨rfl, hb6⟩
    have hb6 := hb5.trans (hb6.mono hb5.size)
    go_wp2_with fail
    refine (C7 _).out.mono ?_
    rintro e w' ⟨rfl, rfl⟩
    go_wp2_with fail
    refine (C4 _).out.mono ?_
    rintro e w' ⟨rfl, rfl⟩
    go_wp2_with fail
    refine (Al _ hb6).out.mono ?_
    rintro e w8 ⟨rfl, hb8⟩
    have hb8 := hb6.trans (hb8.mono hb6.size)
    go_wp2_with fail
    refine (C8 _).out.mono ?_
    rintro e w' ⟨rfl, rfl⟩
    go_wp2_with fail
    go_ret
    exact ⟨rfl, hb8⟩
end Go.Proofs.YtahofbnebmoopaaDoor
