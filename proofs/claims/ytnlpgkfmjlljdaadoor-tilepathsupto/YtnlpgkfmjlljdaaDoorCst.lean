/-
  The compression of a block: the document's.
-/
import Derived.Test.YtnlpgkfmjlljdaaDoorComp
import Derived.Test.YtnlpgkfmjlljdaaDoorSchedR
namespace Go.Proofs.YtnlpgkfmjlljdaaDoor
open Go.RowKit
set_option linter.unusedVariables false

set_option maxRecDepth 100000 in
set_option maxHeartbeats 2000000 in
theorem consts_any (w : World) : Calls Tryd.prog 129 #[] w fun e w' => e = .returned (.agg (u32s kL).toArray) ∧ Below w.heap.size w w' := by
  go_enter Tryd.func129, Tryd.ntmps129
  go_wp2_with (refine step_alloc zK rfl ?_)
  intro w1 g1 hg1 hle1 hb1
  go_wp2_with (first | (refine step_storeA (vs := u32s kL) wK rfl rfl rfl hg1 rfl (One.u32 _) rfl ?_; intro w2 hg2 hbut2) | (refine step_run rfl (.agg (u32s kL).toArray) _ (by kernel_rfl) ?_))
  refine bodyPost_ret (results_wide rfl wK _ _ rfl hg2 rfl) rfl ⟨rfl, ?_⟩
  exact hb1.trans (hbut2.below hle1)

end Go.Proofs.YtnlpgkfmjlljdaaDoor
