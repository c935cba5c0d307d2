/-
  States that no call made: what each call of such a state answers.
-/
import Derived.Test.YtbankdepjpeniaaDoorTy
namespace Go.Proofs.YtbankdepjpeniaaDoor
open Go.RowKit
set_option linter.unusedVariables false

/-- A state that no call made: nil, or one whose mark is unset. -/
def Nob (w : World) (p : Value) : Prop :=
  p = .pointer none ∨ ∃ g : Nat, p = .pointer (some ⟨g, 0, none⟩) ∧ w.cell? ⟨g, 0, none⟩ = some (.bool false)
theorem Nob.nil {w : World} : Nob w (.pointer none) := .inl rfl
theorem Nob.bare {w : World} (g : Nat) (h : w.cell? ⟨g, 0, none⟩ = some (.bool false)) : Nob w (.pointer (some ⟨g, 0, none⟩)) := .inr ⟨g, rfl, h⟩

theorem made_nob (p : Value) (w : World) (h : Nob w p) : Calls Tryd.prog 36 #[p] w fun e w' => e = .returned (.bool false) ∧ w = w' := by
  rcases h with rfl | ⟨g, rfl, h⟩
  · go_enter Tryd.func36, Tryd.ntmps36
    go_wp2
    go_ret
    exact ⟨rfl, rfl⟩
  · go_enter Tryd.func36, Tryd.ntmps36
    go_wp2
    go_ret
    exact ⟨rfl, rfl⟩

theorem write_nob (p : Value) (a : Option Addr) (len cap : Nat) (w : World) (h : Nob w p) : Calls Tryd.prog 16 #[p, .slice a len cap] w fun e w' => e = .returned (.int .i64 1) ∧ w = w' := by
  go_enter Tryd.func16, Tryd.ntmps16
  go_wp2_with (go_at_call 36; refine (made_nob _ _ h).mono ?_; rintro e w' ⟨rfl, rfl⟩)
  go_ret
  exact ⟨rfl, rfl⟩

theorem len_nob (p : Value) (w : World) (h : Nob w p) : Calls Tryd.prog 18 #[p] w fun e w' => e = .returned (.int .i64 0) ∧ w = w' := by
  go_enter Tryd.func18, Tryd.ntmps18
  go_wp2_with (go_at_call 36; refine (made_nob _ _ h).mono ?_; rintro e w' ⟨rfl, rfl⟩)
  go_ret
  exact ⟨rfl, rfl⟩

theorem clone_nob (p : Value) (w : World) (h : Nob w p) : Calls Tryd.prog 19 #[p] w fun e w' => e = .returned (.pointer none) ∧ w = w' := by
  go_enter Tryd.func19, Tryd.ntmps19
  go_wp2_with (go_at_call 36; refine (made_nob _ _ h).mono ?_; rintro e w' ⟨rfl, rfl⟩)
  go_ret
  exact ⟨rfl, rfl⟩

theorem save_nob (p : Value) (w : World) (h : Nob w p) : Calls Tryd.prog 20 #[p] w fun e w' => e = .returned (.slice none 0 0) ∧ w = w' := by
  go_enter Tryd.func20, Tryd.ntmps20
  go_wp2_with (go_at_call 36; refine (made_nob _ _ h).mono ?_; rintro e w' ⟨rfl, rfl⟩)
  go_ret
  exact ⟨rfl, rfl⟩

theorem sum_nob (p : Value) (w : World) (h : Nob w p) : Calls Tryd.prog 17 #[p] w fun e w' => e = .returned (.agg (u8s (zer 32)).toArray) ∧ Below w.heap.size w w' := by
  have hn : ∀ w1, Below w.heap.size w w1 → Nob w1 p := fun w1 hb => by
    rcases h with rfl | ⟨g, rfl, h⟩
    · exact .nil
    · exact .bare g (by rw [hb.cell (World.block_lt_of_cell? w _ h)]; exact h)
  go_enter Tryd.func17, Tryd.ntmps17
  go_wp2_with (first | (refine step_alloc zD rfl ?_; intro w1 g hg hle hb1; have HG := hide hg; have HN := hide (hn w1 hb1); clear hg) | (go_at_call 36; refine (made_nob _ _ HN.out).mono ?_; rintro e w' ⟨rfl, rfl⟩) | (refine step_buildD rfl ?_) | (refine step_storeA wD rfl rfl rfl HG.out rfl (One.u8 _) rfl ?_; intro w2 hg2 hbut))
  refine bodyPost_ret (results_wide rfl wD _ _ rfl hg2 rfl) rfl ⟨rfl, ?_⟩
  exact hb1.trans (hbut.below hle)

end Go.Proofs.YtbankdepjpeniaaDoor
