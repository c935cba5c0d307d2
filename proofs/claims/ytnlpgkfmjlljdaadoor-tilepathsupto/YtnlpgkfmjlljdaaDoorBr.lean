/-
  The document's Begin.
-/
import Derived.Test.YtnlpgkfmjlljdaaDoorCompR
import Derived.Test.YtnlpgkfmjlljdaaDoorBg
namespace Go.Proofs.YtnlpgkfmjlljdaaDoor
open Go.RowKit
set_option linter.unusedVariables false

set_option maxHeartbeats 1000000 in
theorem beginR_any (w : World) : Calls Tryd.prog 82 #[] w fun e w' => e = .returned (.agg (u32s bL).toArray) ∧ Below w.heap.size w w' := by
  go_enter Tryd.func82, Tryd.ntmps82
  go_wp2_with (refine step_alloc zW rfl ?_)
  intro w1 g1 hg1 hle1 hb1
  go_wp2_with (first | (refine step_storeA (vs := u32s bL) wW rfl rfl rfl hg1 rfl (One.u32 _) rfl ?_; intro w2 hg2 hbut2) | (refine step_run rfl (.agg (u32s bL).toArray) _ (by kernel_rfl) ?_))
  refine bodyPost_ret (results_wide rfl wW _ _ rfl hg2 rfl) rfl ⟨rfl, ?_⟩
  exact hb1.trans (hbut2.below hle1)

end Go.Proofs.YtnlpgkfmjlljdaaDoor
