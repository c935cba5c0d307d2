/-
  hash.Padding; a new row as a slice of the call's own.
-/
import Derived.Test.YtfgibmpllnkfeabDoorNm
namespace Go.Proofs.YtfgibmpllnkfeabDoor
open Go.RowKit
set_option linter.unusedVariables false

theorem Own.of_blk {w : World} {g B : Nat} {xs : List Int} (h : Blk w g 5 (u8s xs)) (hB : B ≤ g) (hl : xs.length ≤ 9223372036854775807) : Own w B (.slice (some ⟨g, 0, none⟩) xs.length xs.length) xs :=
  ⟨by simp [u8s_length], .inr ⟨g, xs.length, (u8s xs).toArray, rfl, hB, h, Nat.le_refl _, by unfold maxLen; omega, by simp [u8s_length], by rw [Nat.mul_one]; exact List.take_of_length_le (by simp [u8s_length])⟩⟩

theorem padP_bad (n : Int) (w : World) (e : Int) (he : (n < 0 ∧ e = 2) ∨ (2305843009213693951 < n ∧ e = 3)) :
    Calls Tryd.prog 11 #[.int .i64 n] w fun r w' => r = .returned (.tuple #[.slice none 0 0, .int .i64 e]) ∧ w = w' := by
  rcases he with ⟨h, rfl⟩ | ⟨h, rfl⟩
  · go_enter Tryd.func11, Tryd.ntmps11
    go_wp2
    go_ret2
    exact ⟨rfl, rfl⟩
  · have h0 : ¬ n < 0 := by omega
    go_enter Tryd.func11, Tryd.ntmps11
    go_wp2
    go_ret2
    exact ⟨rfl, rfl⟩

theorem padP_any (n : Nat) (w : World) (hn : n ≤ 2305843009213693951) :
    Calls Tryd.prog 11 #[.int .i64 n] w fun e w' => ∃ g, e = .returned (.tuple #[.slice (some ⟨g, 0, none⟩) (padZ n + 9) (padZ n + 9), .int .i64 0]) ∧ w.heap.size ≤ g ∧ Blk w' g 5 (u8s (pad n)) ∧ Below w.heap.size w w' := by
  have hn1 : ¬ ((n : Int) < 0) := by omega
  have hn2 : ¬ ((2305843009213693951 : Int) < (n : Int)) := by omega
  go_enter Tryd.func11, Tryd.ntmps11
  go_wp2_with (go_at_call 17; refine (padding_any n _ hn).mono ?_; rintro e w1 ⟨g, rfl, hle, hg, hb⟩)
  go_ret2
  exact ⟨g, rfl, hle, hg, hb⟩

end Go.Proofs.YtfgibmpllnkfeabDoor
