/-
  The document's New.
-/
import Derived.Test.YtefaabmkcgdkiaaDoorRw
import Derived.Test.YtefaabmkcgdkiaaDoorBr
namespace Go.Proofs.YtefaabmkcgdkiaaDoor
open Go.RowKit
set_option linter.unusedVariables false

set_option maxRecDepth 100000 in
set_option maxHeartbeats 2000000 in
theorem rnew_any (w : World) : Calls Tryd.prog 10 #[] w fun e w' => e = .returned (.agg (rfC bL 0 (.slice none 0 0)).toArray) ∧ Below w.heap.size w w' := by
  have HL := hide (rfC_length bL 0 (.slice none 0 0) rfl)
  go_enter Tryd.func10, Tryd.ntmps10
  go_wp2_with (refine step_alloc zRS rfl ?_)
  intro w1 g hg hle hb1
  have HG := hide hg
  clear hg
  go_wp2_with fail
  refine (beginR_any _).mono ?_
  rintro e w2 ⟨rfl, hb2⟩
  have HG2 := hide (HG.out.below hb2 HG.out.lt)
  go_wp2_with (refine step_storeA wRS (vs := rfC bL 0 (.slice none 0 0)) rfl rfl (by kernel_rfl) HG2.out HL.out (One.rf _ _ _ _ _) rfl ?_; intro w3 hg3 hbut3)
  refine bodyPost_ret (results_wide rfl wRS _ _ rfl hg3 HL.out) rfl ⟨rfl, ?_⟩
  exact hb1.trans ((hb2.mono hb1.size).trans (hbut3.below hle))

end Go.Proofs.YtefaabmkcgdkiaaDoor
