/-
  The first words; laws on regions that draw their order.
-/
import Derived.Test.YtnlpgkfmjlljdaaDoorComp
namespace Go.Proofs.YtnlpgkfmjlljdaaDoor
open Go.RowKit
set_option linter.unusedVariables false

/-- The first words. -/
def bL : List Int := [1779033703, 3144134277, 1013904242, 2773480762, 1359893119, 2600822924, 528734635, 1541459225]

set_option maxHeartbeats 1000000 in
theorem begin_any (w : World) : Calls Tryd.prog 101 #[] w fun e w' => e = .returned (.agg (u32s bL).toArray) ∧ Below w.heap.size w w' := by
  go_enter Tryd.func101, Tryd.ntmps101
  go_wp2_with (refine step_alloc zW rfl ?_)
  intro w1 g1 hg1 hle1 hb1
  go_wp2_with (first | (refine step_storeA (vs := u32s bL) wW rfl rfl rfl hg1 rfl (One.u32 _) rfl ?_; intro w2 hg2 hbut2) | (refine step_run rfl (.agg (u32s bL).toArray) _ (by kernel_rfl) ?_))
  refine bodyPost_ret (results_wide rfl wW _ _ rfl hg2 rfl) rfl ⟨rfl, ?_⟩
  exact hb1.trans (hbut2.below hle1)

end Go.Proofs.YtnlpgkfmjlljdaaDoor
