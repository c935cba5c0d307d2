/-
  The walk of ShelfNames.
-/
import Derived.Test.YtlgcjdgcgnlcaaaDoorSna
import Derived.OpenShut
namespace Go.Proofs.YtlgcjdgcgnlcaaaDoor
open Go.RowKit
set_option linter.unusedVariables false

theorem names14_any (w : World) : Calls Tryd.prog 8 #[] w fun e w' => e = .returned (.bool true) ∧ w' = w := by
  go_enter Tryd.func8, Tryd.ntmps8
  go_wp2
  go_ret
  exact ⟨rfl, rfl⟩
set_option maxHeartbeats 400000 in
theorem snames_walk (h l i : Int) (w : World) (h1 : (Lit.int .i64 h).wf = true) (h2 : (Lit.int .i64 l).wf = true) (h3 : (Lit.int .i64 i).wf = true) (ht : PT w) : Calls Tryd.prog 3 #[.int .i64 h, .int .i64 l, .int .i64 i] w fun e w' => e = .returned (.bool true) ∧ Below w.heap.size w w' := by
  have hl : l ≤ 9223372036854775807 := (bounds_i64 h2).2
  have hi : i ≤ 9223372036854775807 := (bounds_i64 h3).2
  have HN := hide (sname_any h l i w hl hi ht)
  have HR := hide (fun V => snameR_any h l i V)
  generalize smP h l i = p at *
  generalize smE h l i = e at *
  generalize bA p = P at *
  clear h1 h2 h3 hl hi ht
  go_enter Tryd.func3, Tryd.ntmps3
  go_wp2_with fail
  refine HN.out.mono ?_
  rintro r w1 ⟨rfl, hb1⟩
  go_wp2_with fail
  refine (HR.out _).mono ?_
  rintro r w2 ⟨rfl, hb2⟩
  have q2 := on_below hb1 hb2
  go_wp2_with (go_at_call 8; refine (names14_any _).mono ?_; rintro e w2 ⟨rfl, rfl⟩)
  go_ret
  exact ⟨rfl, q2⟩

end Go.Proofs.YtlgcjdgcgnlcaaaDoor
