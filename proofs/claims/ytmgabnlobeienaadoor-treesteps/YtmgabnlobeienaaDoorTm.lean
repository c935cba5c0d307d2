/-
  Both Splits at any length; the law's names, same; laws for strings in a region.
-/
import Derived.Test.YtmgabnlobeienaaDoorDg
namespace Go.Proofs.YtmgabnlobeienaaDoor
open Go.RowKit
set_option linter.unusedVariables false

def spK (n : Nat) : Int := if n < 2 then 0 else (hf n : Int)
def spE (n : Nat) : Int := if n < 2 then 40 else 0
theorem split_all (n : Nat) (w : World) (hn : n ≤ 9223372036854775807) : Calls Tryd.prog 8 #[.int .i64 n] w fun e w' => e = .returned (.tuple #[.int .i64 (spK n), .int .i64 (spE n)]) ∧ w' = w := by
  unfold spK spE
  by_cases h : n < 2
  · rw [if_pos h, if_pos h]
    exact split_low _ w (by omega)
  · rw [if_neg h, if_neg h]
    exact split_any n w (by omega) hn
theorem splitR_all (n : Nat) (w : World) (hn : n ≤ 9223372036854775807) : Calls Tryd.prog 9 #[.int .i64 n] w fun e w' => e = .returned (.tuple #[.int .i64 (spK n), .int .i64 (spE n)]) ∧ w' = w := by
  unfold spK spE
  by_cases h : n < 2
  · rw [if_pos h, if_pos h]
    exact splitR_low _ w (by omega)
  · rw [if_neg h, if_neg h]
    exact splitR_any n w (by omega) hn
theorem names4_any (w : World) : Calls Tryd.prog 16 #[] w fun e w' => e = .returned (.bool true) ∧ w' = w := by
  go_enter Tryd.func16, Tryd.ntmps16
  go_wp2
  go_ret
  exact ⟨rfl, rfl⟩
theorem str_90t (xs : List Int) : str xs ++ { data := #[90] } = str (xs ++ [90]) := (str_append xs [90])
theorem isB_of_wf {xs : List Int} (h : ∀ x ∈ xs, (Lit.int .u8 x).wf = true) : isB xs := fun x hx => bounds_u8 (h x hx)

end Go.Proofs.YtmgabnlobeienaaDoor
