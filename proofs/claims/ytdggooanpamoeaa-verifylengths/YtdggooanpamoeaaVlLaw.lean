/-
  The walk of VerifyLengths.
-/
import Derived.Test.YtdggooanpamoeaaVf
namespace Go.Proofs.Ytdggooanpamoeaa
open Go.RowKit
set_option linter.unusedVariables false

/-- What is told for any numbers. -/
theorem len_both (i n : Int) : ∃ L E : Int, (∀ w : World, Calls Try.prog 4 #[.int .i64 i, .int .i64 n] w fun r w' => r = .returned (.tuple #[.int .i64 L, .int .i64 E]) ∧ Below w.heap.size w w') ∧
    (∀ w : World, Calls Try.prog 6 #[.int .i64 i, .int .i64 n] w fun r w' => r = .returned (.tuple #[.int .i64 L, .int .i64 E]) ∧ w' = w) := by
  by_cases h : i < 0 ∨ n ≤ i ∨ 281474976710656 < n
  · exact ⟨0, 40, fun w => length_bad i n w h, fun w => lengthR_bad i n w h⟩
  · obtain ⟨i', rfl⟩ : ∃ i' : Nat, i = (i' : Int) := ⟨i.toNat, by omega⟩
    obtain ⟨n', rfl⟩ : ∃ n' : Nat, n = (n' : Int) := ⟨n.toNat, by omega⟩
    exact ⟨_, 0, fun w => length_ok i' n' w (by omega) (by omega), fun w => lengthR_ok i' n' w (by omega) (by omega)⟩
theorem steps_both (m n : Int) : ∃ L E : Int, (∀ w : World, Calls Try.prog 5 #[.int .i64 m, .int .i64 n] w fun r w' => r = .returned (.tuple #[.int .i64 L, .int .i64 E]) ∧ Below w.heap.size w w') ∧
    (∀ w : World, Calls Try.prog 7 #[.int .i64 m, .int .i64 n] w fun r w' => r = .returned (.tuple #[.int .i64 L, .int .i64 E]) ∧ w' = w) := by
  by_cases h : m < 1 ∨ n < m ∨ 281474976710656 < n
  · exact ⟨0, 40, fun w => steps_bad m n w h, fun w => stepsR_bad m n w h⟩
  · obtain ⟨m', rfl⟩ : ∃ i' : Nat, m = (i' : Int) := ⟨m.toNat, by omega⟩
    obtain ⟨n', rfl⟩ : ∃ n' : Nat, n = (n' : Int) := ⟨n.toNat, by omega⟩
    exact ⟨_, 0, fun w => steps_ok m' n' w (by omega) (by omega) (by omega), fun w => stepsR_ok m' n' w (by omega) (by omega) (by omega)⟩
set_option maxRecDepth 100000 in
set_option maxHeartbeats 1000000 in
theorem lengths_any (i n : Int) (w : World) : Calls Try.prog 3 #[.int .i64 i, .int .i64 n] w fun r w' => r = .returned (.bool true) ∧ Below w.heap.size w w' := by
  obtain ⟨L, E, h1, h2⟩ := len_both i n
  obtain ⟨M, F, h3, h4⟩ := steps_both i n
  have H1 := hide h1
  have H2 := hide h2
  have H3 := hide h3
  have H4 := hide h4
  clear h1 h2 h3 h4
  go_enter Try.func3, Try.ntmps3
  go_wp2_with fail
  refine (H1.out _).mono ?_
  rintro r w1 ⟨rfl, hb1⟩
  go_wp2_with fail
  refine (H3.out _).mono ?_
  rintro r w2 ⟨rfl, hb2⟩
  go_wp2_with fail
  refine (H2.out _).mono ?_
  rintro r w3 ⟨rfl, rfl⟩
  go_wp2_with fail
  refine (H4.out _).mono ?_
  rintro r w4 ⟨rfl, rfl⟩
  go_wp2_with (go_at_call 8; refine (names7 _).mono ?_; rintro r w5 ⟨rfl, rfl⟩)
  go_ret
  exact ⟨rfl, on_below hb1 hb2⟩

end Go.Proofs.Ytdggooanpamoeaa
