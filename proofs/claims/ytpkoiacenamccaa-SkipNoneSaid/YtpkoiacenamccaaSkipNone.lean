/-
  SkipNone: of a nil list.
-/
import Derived.Test.YtpkoiacenamccaaSp13
namespace Go.Proofs.Ytpkoiacenamccaa
open Go.RowKit

set_option maxRecDepth 100000 in
set_option maxHeartbeats 4000000 in
theorem lawSkipNone (key : ByteArray) (_ : key.size ≤ 140737488351232) (n : Int) (_ : (Lit.int .i64 n).wf = true) (w : World) : Calls Try.prog 3 #[.string key, .int .i64 n] w fun e w' => e = .returned (.bool true) ∧ Below w.heap.size w w' := by
  have HA := Lib.hid (alive10_any w)
  have H1 := fun W => Lib.hid (skget_nil key W)
  have H2 := fun W => Lib.hid (sklast_nil key W)
  have H3 := fun W => Lib.hid (skfreeze_nil W)
  have H4 := fun W => Lib.hid (skput_nil key ⟨#[]⟩ n W)
  have H5 := fun W => Lib.hid (skfrom_nil key n W)
  have H6 := fun W => Lib.hid (skcount_nil W)
  have H7 := fun W => Lib.hid (skbytes_nil W)
  have H8 := fun W => Lib.hid (sklanes_nil W)
  have H9 := fun W => Lib.hid (sksteps_nil key W)
  have H10 := fun W => Lib.hid (skfrozen_nil W)
  have hcat : (((⟨#[]⟩ : ByteArray) ++ ⟨#[]⟩).toList).isEmpty = true := by rw [Lib.toList_data]; rfl
  go_enter Try.func3, Try.ntmps3
  go_wp2_with fail
  refine (H1 _).out.mono ?_
  rintro e w' ⟨rfl, rfl⟩
  go_wp2_with fail
  refine (H2 _).out.mono ?_
  rintro e w' ⟨rfl, rfl⟩
  go_wp2_with fail
  refine (H3 _).out.mono ?_
  rintro e w' ⟨rfl, rfl⟩
  go_wp2_with fail
  refine HA.out.mono ?_
  rintro e w1 ⟨rfl, g1⟩
  have G1 := Lib.hid g1
  clear g1 HA H1 H2 H3
  go_wp2_with fail
  refine (H4 _).out.mono ?_
  rintro e w2 ⟨rfl, g2⟩
  have G2 := Lib.hid (gnone G1.out g2)
  clear g2 G1 H4
  go_wp2_with fail
  refine (H5 _).out.mono ?_
  rintro e w3 ⟨rfl, g3⟩
  have G3 := Lib.hid (gnone G2.out g3)
  clear g3 G2 H5
  go_wp2_with fail
  refine (H6 _).out.mono ?_
  rintro e w' ⟨rfl, rfl⟩
  go_wp2_with fail
  refine (H7 _).out.mono ?_
  rintro e w' ⟨rfl, rfl⟩
  go_wp2_with fail
  refine (H8 _).out.mono ?_
  rintro e w' ⟨rfl, rfl⟩
  go_wp2_with fail
  refine (H9 _).out.mono ?_
  rintro e w' ⟨rfl, rfl⟩
  go_wp2_with fail
  refine (H10 _).out.mono ?_
  rintro e w' ⟨rfl, rfl⟩
  go_wp2_with fail
  go_ret
  exact ⟨rfl, below_g G3.out⟩
end Go.Proofs.Ytpkoiacenamccaa
