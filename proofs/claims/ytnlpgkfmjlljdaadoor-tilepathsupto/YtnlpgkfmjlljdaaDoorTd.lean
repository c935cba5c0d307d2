/-
  The program's and the document's digests of a leaf, of two, of nothing.
-/
import Derived.Test.YtnlpgkfmjlljdaaDoorSm
import Derived.Test.YtnlpgkfmjlljdaaDoorSu
import Derived.Test.YtnlpgkfmjlljdaaDoorAp
import Derived.Test.YtnlpgkfmjlljdaaDoorSc
import Derived.Test.YtnlpgkfmjlljdaaDoorTr
namespace Go.Proofs.YtnlpgkfmjlljdaaDoor
open Go.RowKit
set_option linter.unusedVariables false

theorem Sl.none0 (w : World) : Sl w none 0 0 [] := ⟨rfl, Nat.le_refl _, by omega, by omega, by intro x hx; simp at hx, fun _ => ⟨rfl, rfl⟩, fun h => absurd h (by omega)⟩
theorem own_one (w : World) (x : Int) : Own (w.alloc (.cells #[.int .u8 x] 5)) w.heap.size (.slice (some ⟨w.heap.size, 0, none⟩) 1 1) [x] :=
  Own.of_blk (xs := [x]) (Blk.made w 5 (u8s [x])) (Nat.le_refl _) (by simp)
theorem slice_Dh (g : Nat) (v : World) : (Instr.sliceAt 40 (.pointer (some ⟨g, 0, none⟩)) none none none).run Tryd.prog v = .ok (.slice (some ⟨g, 0, none⟩) 32 32) v := by kernel_rfl



set_option maxHeartbeats 1000000 in
theorem empty_any (w : World) (hk : KT w) :
    Calls Tryd.prog 45 #[] w fun e w' => e = .returned (.agg (u8s emp).toArray) ∧ Below w.heap.size w w' := by
  have HK := hide hk
  clear hk
  have HML := hide (show (u8s emp).length = 32 by rw [u8s_length, emp_length])
  go_enter Tryd.func45, Tryd.ntmps45
  go_wp2_with (refine step_alloc zD rfl ?_)
  intro w1 g1 hg1 hle1 hb1
  have G1 := hide hg1
  have HB1 := hide hb1
  clear hg1 hb1
  go_wp2_with fail
  refine (sum_any none 0 0 [] _ (Sl.none0 _) (HK.out.below HB1.out HK.out.lt)).mono ?_
  rintro e w3 ⟨rfl, hb3⟩
  have EL : Hid (dg bL 0 [] = emp) := hide rfl
  rw [EL.out]
  have G3 := hide (G1.out.below hb3 G1.out.lt)
  go_wp2_with (refine step_storeA wD rfl rfl rfl G3.out HML.out (One.u8 _) rfl ?_; intro w4 hg4 hbut4)
  refine bodyPost_ret (results_wide rfl wD _ _ rfl hg4 HML.out) rfl ⟨rfl, ?_⟩
  exact (HB1.out.trans (hb3.mono HB1.out.size)).trans (hbut4.below hle1)
set_option maxHeartbeats 1000000 in
theorem emptyR_any (w : World) :
    Calls Tryd.prog 49 #[] w fun e w' => e = .returned (.agg (u8s emp).toArray) ∧ Below w.heap.size w w' := by
  have HML := hide (show (u8s emp).length = 32 by rw [u8s_length, emp_length])
  go_enter Tryd.func49, Tryd.ntmps49
  go_wp2_with (refine step_alloc zD rfl ?_)
  intro w1 g1 hg1 hle1 hb1
  have G1 := hide hg1
  have HB1 := hide hb1
  clear hg1 hb1
  go_wp2_with fail
  refine (sumR_any none 0 0 [] _ (Sl.none0 _) (by omega)).mono ?_
  rintro e w3 ⟨rfl, hb3⟩
  have EL : Hid (dg bL 0 [] = emp) := hide rfl
  rw [EL.out]
  have G3 := hide (G1.out.below hb3 G1.out.lt)
  go_wp2_with (refine step_storeA wD rfl rfl rfl G3.out HML.out (One.u8 _) rfl ?_; intro w4 hg4 hbut4)
  refine bodyPost_ret (results_wide rfl wD _ _ rfl hg4 HML.out) rfl ⟨rfl, ?_⟩
  exact (HB1.out.trans (hb3.mono HB1.out.size)).trans (hbut4.below hle1)

end Go.Proofs.YtnlpgkfmjlljdaaDoor
