/-
  A new row as a slice of the call's own.
-/
import Derived.Test.YtnlpgkfmjlljdaaDoorNm
namespace Go.Proofs.YtnlpgkfmjlljdaaDoor
open Go.RowKit
set_option linter.unusedVariables false

theorem Own.of_blk {w : World} {g B : Nat} {xs : List Int} (h : Blk w g 5 (u8s xs)) (hB : B ≤ g) (hl : xs.length ≤ 9223372036854775807) : Own w B (.slice (some ⟨g, 0, none⟩) xs.length xs.length) xs :=
  ⟨by simp [u8s_length], .inr ⟨g, xs.length, (u8s xs).toArray, rfl, hB, h, Nat.le_refl _, by unfold maxLen; omega, by simp [u8s_length], by rw [Nat.mul_one]; exact List.take_of_length_le (by simp [u8s_length])⟩⟩

end Go.Proofs.YtnlpgkfmjlljdaaDoor
