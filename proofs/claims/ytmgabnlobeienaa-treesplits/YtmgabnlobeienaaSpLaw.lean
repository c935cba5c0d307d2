/-
  The walk of TreeSplits.
-/
import Derived.Test.YtmgabnlobeienaaBl
import Derived.Below
import Derived.Laws.BitsAllLaws
namespace Go.Proofs.Ytmgabnlobeienaa
open Go.RowKit
set_option linter.unusedVariables false

theorem names_any (w : World) : Calls Try.prog 5 #[] w fun e w' => e = .returned (.bool true) ∧ w' = w := by
  go_enter Try.func5, Try.ntmps5
  go_wp2
  go_ret
  exact ⟨rfl, rfl⟩

theorem and_pow : ∀ a : Fin 63, bits BinOp.and IntKind.i64 (2 ^ a.val) (2 ^ a.val - 1) = 0 := by decide +kernel
theorem and_hf (n : Nat) (h2 : 2 ≤ n) (hn : n ≤ 9223372036854775807) : bits BinOp.and IntKind.i64 (hf n : Int) ((hf n : Int) - 1) = 0 := by
  have hbd := hf_bd n h2 (by omega)
  unfold hf at *
  generalize Lib.bitLen (n - 1) - 1 = a at *
  have ha : a < 63 := by
    apply Nat.lt_of_not_le
    intro h
    have := Nat.pow_le_pow_right (n := 2) (by omega) h
    omega
  have := and_pow ⟨a, ha⟩
  simpa [Int.natCast_pow] using this

theorem splits_walk (n : Int) (w : World) (h0 : -9223372036854775808 ≤ n) (h1 : n ≤ 9223372036854775807) :
    Calls Try.prog 3 #[.int .i64 n] w fun e w' => e = .returned (.bool true) ∧ Below w.heap.size w w' := by
  go_enter Try.func3, Try.ntmps3
  by_cases h : n < 2
  · go_wp2_with (first | (go_at_call 4; refine (split_low n _ h).mono ?_; rintro e w' ⟨rfl, rfl⟩) | (go_at_call 5; refine (names_any _).mono ?_; rintro e w' ⟨rfl, rfl⟩))
    go_ret
    exact ⟨rfl, Below.refl _ _⟩
  · obtain ⟨m, rfl⟩ : ∃ m : Nat, n = (m : Int) := ⟨n.toNat, by omega⟩
    have h2 : 2 ≤ m := by omega
    have hbd := hf_bd m h2 (by omega)
    have hand := and_hf m h2 (by omega)
    generalize hk : hf m = k at *
    go_wp2_with (go_at_call 4; refine (split_any m _ h2 (by omega)).mono ?_; rintro e w' ⟨rfl, rfl⟩; rw [hk])
    go_ret
    exact ⟨rfl, Below.refl _ _⟩

end Go.Proofs.Ytmgabnlobeienaa
