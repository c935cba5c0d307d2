/-
  States that no call made: what each call of such a state answers.
-/
import Derived.Test.YtfgibmpllnkfeaaDoorTy
namespace Go.Proofs.YtfgibmpllnkfeaaDoor
open Go.RowKit
set_option linter.unusedVariables false

/-- A state that no call made: nil, or one whose mark is unset. -/
inductive Nob (w : World) : Value → Prop where
  | nil : Nob w (.pointer none)
  | bare (g : Nat) (h : w.cell? ⟨g, 0, none⟩ = some (.bool false)) : Nob w (.pointer (some ⟨g, 0, none⟩))

theorem made_nob (p : Value) (w : World) (h : Nob w p) : Calls Tryd.prog 42 #[p] w fun e w' => e = .returned (.bool false) ∧ w = w' := by
  cases h with
  | nil =>
    go_enter Tryd.func42, Tryd.ntmps42
    go_wp2
    go_ret
    exact ⟨rfl, rfl⟩
  | bare g h =>
    go_enter Tryd.func42, Tryd.ntmps42
    go_wp2
    go_ret
    exact ⟨rfl, rfl⟩

theorem write_nob (p : Value) (a : Option Addr) (len cap : Nat) (w : World) (h : Nob w p) : Calls Tryd.prog 19 #[p, .slice a len cap] w fun e w' => e = .returned (.int .i64 1) ∧ w = w' := by
  go_enter Tryd.func19, Tryd.ntmps19
  go_wp2_with (go_at_call 42; refine (made_nob _ _ h).mono ?_; rintro e w' ⟨rfl, rfl⟩)
  go_ret
  exact ⟨rfl, rfl⟩

theorem len_nob (p : Value) (w : World) (h : Nob w p) : Calls Tryd.prog 28 #[p] w fun e w' => e = .returned (.int .i64 0) ∧ w = w' := by
  go_enter Tryd.func28, Tryd.ntmps28
  go_wp2_with (go_at_call 42; refine (made_nob _ _ h).mono ?_; rintro e w' ⟨rfl, rfl⟩)
  go_ret
  exact ⟨rfl, rfl⟩

theorem clone_nob (p : Value) (w : World) (h : Nob w p) : Calls Tryd.prog 22 #[p] w fun e w' => e = .returned (.pointer none) ∧ w = w' := by
  go_enter Tryd.func22, Tryd.ntmps22
  go_wp2_with (go_at_call 42; refine (made_nob _ _ h).mono ?_; rintro e w' ⟨rfl, rfl⟩)
  go_ret
  exact ⟨rfl, rfl⟩

theorem save_nob (p : Value) (w : World) (h : Nob w p) : Calls Tryd.prog 23 #[p] w fun e w' => e = .returned (.slice none 0 0) ∧ w = w' := by
  go_enter Tryd.func23, Tryd.ntmps23
  go_wp2_with (go_at_call 42; refine (made_nob _ _ h).mono ?_; rintro e w' ⟨rfl, rfl⟩)
  go_ret
  exact ⟨rfl, rfl⟩

theorem sum_nob (p : Value) (w : World) (h : Nob w p) : Calls Tryd.prog 27 #[p] w fun e w' => e = .returned (.agg (u8s (zer 32)).toArray) ∧ Below w.heap.size w w' := by
  have hn : ∀ w1, Below w.heap.size w w1 → Nob w1 p := fun w1 hb => by
    cases h with
    | nil => exact .nil
    | bare g h => exact .bare g (by rw [hb.cell (World.block_lt_of_cell? w _ h)]; exact h)
  go_enter Tryd.func27, Tryd.ntmps27
  go_wp2_with (first | (refine step_alloc zD rfl ?_; intro w1 g hg hle hb1; have HG := hide hg; have HN := hide (hn w1 hb1); clear hg) | (go_at_call 42; refine (made_nob _ _ HN.out).mono ?_; rintro e w' ⟨rfl, rfl⟩) | (refine step_buildD rfl ?_) | (refine step_storeA wD rfl rfl rfl HG.out rfl (One.u8 _) rfl ?_; intro w2 hg2 hbut))
  refine bodyPost_ret (results_wide rfl wD _ _ rfl hg2 rfl) rfl ⟨rfl, ?_⟩
  exact hb1.trans (hbut.below hle)

end Go.Proofs.YtfgibmpllnkfeaaDoor
