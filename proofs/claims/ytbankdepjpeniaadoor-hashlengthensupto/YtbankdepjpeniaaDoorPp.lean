/-
  hash.Padding.
-/
import Derived.Test.YtbankdepjpeniaaDoorOw
namespace Go.Proofs.YtbankdepjpeniaaDoor
open Go.RowKit
set_option linter.unusedVariables false

theorem padP_bad (n : Int) (w : World) (e : Int) (he : (n < 0 ∧ e = 2) ∨ (2305843009213693951 < n ∧ e = 3)) :
    Calls Tryd.prog 23 #[.int .i64 n] w fun r w' => r = .returned (.tuple #[.slice none 0 0, .int .i64 e]) ∧ w = w' := by
  rcases he with ⟨h, rfl⟩ | ⟨h, rfl⟩
  · go_enter Tryd.func23, Tryd.ntmps23
    go_wp2
    go_ret2
    exact ⟨rfl, rfl⟩
  · have h0 : ¬ n < 0 := by omega
    go_enter Tryd.func23, Tryd.ntmps23
    go_wp2
    go_ret2
    exact ⟨rfl, rfl⟩

theorem padP_any (n : Nat) (w : World) (hn : n ≤ 2305843009213693951) :
    Calls Tryd.prog 23 #[.int .i64 n] w fun e w' => ∃ g, e = .returned (.tuple #[.slice (some ⟨g, 0, none⟩) (padZ n + 9) (padZ n + 9), .int .i64 0]) ∧ w.heap.size ≤ g ∧ Blk w' g 5 (u8s (pad n)) ∧ Below w.heap.size w w' := by
  have hn1 : ¬ ((n : Int) < 0) := by omega
  have hn2 : ¬ ((2305843009213693951 : Int) < (n : Int)) := by omega
  go_enter Tryd.func23, Tryd.ntmps23
  go_wp2_with (go_at_call 39; refine (padding_any n _ hn).mono ?_; rintro e w1 ⟨g, rfl, hle, hg, hb⟩)
  go_ret2
  exact ⟨g, rfl, hle, hg, hb⟩

end Go.Proofs.YtbankdepjpeniaaDoor
