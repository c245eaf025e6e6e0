/-
  The law SstNone, walked.
-/
import Derived.Test.YtcbgflidlpmhcaaDoorM6
import Derived.Test.YtcbgflidlpmhcaaDoorM4
namespace Go.Proofs.YtcbgflidlpmhcaaDoor
open Go.RowKit

set_option maxRecDepth 100000 in
set_option maxHeartbeats 8000000 in
theorem lawSstNone (key : ByteArray) (_hkey : key.size ≤ 140737488351232) (m : Int) (_hm : (Lit.int .i64 m).wf = true) (w : World) (hT : LaidS w) :
    Calls Tryd.prog 5 #[.string key, .int .i64 m] w fun e w' => e = .returned (.bool true) ∧ Below w.heap.size w w' := by
  have B0 : Blk (w.alloc (.cells #[.slice none 0 0, .int .i64 0, .string ⟨#[]⟩] 46)) w.heap.size 46 #[.slice none 0 0, .int .i64 0, .string ⟨#[]⟩] := Blk.new _ _ _
  have hb0 := below_alloc (Below.refl w.heap.size w) (Nat.le_refl _) (.cells #[.slice none 0 0, .int .i64 0, .string ⟨#[]⟩] 46)
  have CA := fun W (hb : Below w.heap.size w W) => Lib.hid (alive13_any W (hT.on hb))
  have N0 : ∀ W, Calls Tryd.prog 34 #[.pointer none] W fun e w' => e = .returned (.bool true) ∧ w' = W := snone_nil
  have Z0 := fun W (h : W.cell? ⟨w.heap.size, 0, none⟩ = some (.slice none 0 0)) => snone_len w.heap.size none 0 0 true rfl W h
  have NG := fun W => Lib.hid (nget_any (N0 W) key)
  have NF := fun W => Lib.hid (nfrom_any (N0 W) key m)
  have NC := fun W => Lib.hid (ncount_any (N0 W))
  have NB := fun W => Lib.hid (nblocks_any (N0 W))
  have N1 := fun W => Lib.hid (nfirst_any (N0 W))
  have N2 := fun W => Lib.hid (nlast_any (N0 W))
  have NM := fun W => Lib.hid (nmay_any (N0 W) key)
  have ZG := fun W h => Lib.hid (nget_any (Z0 W h) key)
  have ZF := fun W h => Lib.hid (nfrom_any (Z0 W h) key m)
  have ZC := fun W h => Lib.hid (ncount_any (Z0 W h))
  have ZB := fun W h => Lib.hid (nblocks_any (Z0 W h))
  have Z1 := fun W h => Lib.hid (nfirst_any (Z0 W h))
  have Z2 := fun W h => Lib.hid (nlast_any (Z0 W h))
  have ZM := fun W h => Lib.hid (nmay_any (Z0 W h) key)
  have HB0 := Lib.hid hb0
  have HBk := Lib.hid B0
  have z0 := B0.cell 0
  have ZG1 := ZG _ z0
  have CA1 := CA _ hb0
  have hcat : ∀ W, (Op.stringOp .add ⟨#[]⟩ ⟨#[]⟩).run Tryd.prog W = .ok (.string ⟨#[]⟩) W := fun W => cat_is (P := Tryd.prog) ⟨#[]⟩ ⟨#[]⟩ ⟨#[]⟩ rfl (by decide) W
  clear hb0 B0 hT N0 Z0 ZG CA
  go_enter Tryd.func5, Tryd.ntmps5
  go_wp2_with fail
  refine (NG _).out.mono ?_
  rintro e w1 ⟨rfl, rfl⟩
  go_wp2_with fail
  refine ZG1.out.mono ?_
  rintro e w1 ⟨rfl, rfl⟩
  go_wp2_with fail
  refine CA1.out.mono ?_
  rintro e w2 ⟨rfl, hb⟩
  have y0 : w2.cell? ⟨w.heap.size, 0, none⟩ = some (.slice none 0 0) := (HBk.out.below hb HBk.out.lt).cell 0
  have HB2 := Lib.hid (HB0.out.trans (hb.mono HB0.out.size))
  have ZF1 := ZF w2 y0
  have ZC1 := ZC w2 y0
  have ZB1 := ZB w2 y0
  have Z11 := Z1 w2 y0
  have Z21 := Z2 w2 y0
  have ZM1 := ZM w2 y0
  clear hb ZF ZC ZB Z1 Z2 ZM ZG1 CA1 z0 y0 HB0 HBk NG
  go_wp2_with fail
  refine (NF _).out.mono ?_
  rintro e w3 ⟨rfl, rfl⟩
  go_wp2_with fail
  refine ZF1.out.mono ?_
  rintro e w3 ⟨rfl, rfl⟩
  go_wp2_with fail
  refine (NC _).out.mono ?_
  rintro e w3 ⟨rfl, rfl⟩
  go_wp2_with fail
  refine ZC1.out.mono ?_
  rintro e w3 ⟨rfl, rfl⟩
  go_wp2_with fail
  refine (NB _).out.mono ?_
  rintro e w3 ⟨rfl, rfl⟩
  go_wp2_with fail
  refine ZB1.out.mono ?_
  rintro e w3 ⟨rfl, rfl⟩
  go_wp2_with fail
  refine (N1 _).out.mono ?_
  rintro e w3 ⟨rfl, rfl⟩
  go_wp2_with fail
  refine Z11.out.mono ?_
  rintro e w3 ⟨rfl, rfl⟩
  go_wp2_with fail
  refine (N2 _).out.mono ?_
  rintro e w3 ⟨rfl, rfl⟩
  go_wp2_with fail
  refine Z21.out.mono ?_
  rintro e w3 ⟨rfl, rfl⟩
  go_wp2_with fail
  refine (NM _).out.mono ?_
  rintro e w3 ⟨rfl, rfl⟩
  go_wp2_with fail
  refine ZM1.out.mono ?_
  rintro e w3 ⟨rfl, rfl⟩
  go_wp2_with fail
  go_ret
  exact ⟨rfl, HB2.out⟩
end Go.Proofs.YtcbgflidlpmhcaaDoor
