/-
  The walk of BundleNames.
-/
import Derived.Test.YtpocadbhajacaaaDoorBxa
import Derived.OpenShut
namespace Go.Proofs.YtpocadbhajacaaaDoor
open Go.RowKit
set_option linter.unusedVariables false

theorem names15_any (w : World) : Calls Tryd.prog 6 #[] w fun e w' => e = .returned (.bool true) ∧ w' = w := by
  go_enter Tryd.func6, Tryd.ntmps6
  go_wp2
  go_ret
  exact ⟨rfl, rfl⟩
set_option maxHeartbeats 400000 in
theorem bnames_walk (h i : Int) (w : World) (h1 : (Lit.int .i64 h).wf = true) (h2 : (Lit.int .i64 i).wf = true) (ht : PT w) : Calls Tryd.prog 3 #[.int .i64 h, .int .i64 i] w fun e w' => e = .returned (.bool true) ∧ Below w.heap.size w w' := by
  have HN := hide (bname_any h i w ht)
  have HR := hide (fun V => bnameR_any h i V)
  generalize bnP h i = P at *
  generalize bnE h i = e at *
  clear h1 h2 ht
  go_enter Tryd.func3, Tryd.ntmps3
  go_wp2_with fail
  refine HN.out.mono ?_
  rintro r w1 ⟨rfl, hb1⟩
  go_wp2_with fail
  refine (HR.out _).mono ?_
  rintro r w2 ⟨rfl, rfl⟩
  go_wp2_with (go_at_call 6; refine (names15_any _).mono ?_; rintro e w2 ⟨rfl, hw'⟩; subst w2)
  go_ret
  exact ⟨rfl, hb1⟩

end Go.Proofs.YtpocadbhajacaaaDoor
