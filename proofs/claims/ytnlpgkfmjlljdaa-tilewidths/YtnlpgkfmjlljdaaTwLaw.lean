/-
  The walk of TileWidths.
-/
import Derived.Test.YtnlpgkfmjlljdaaToLaw
namespace Go.Proofs.Ytnlpgkfmjlljdaa
open Go.RowKit
set_option linter.unusedVariables false

theorem width_both (h l i n : Int) (hl : l ≤ 9223372036854775807) (hi : i ≤ 9223372036854775807) : ∃ x y : Int, (∀ w : World, Calls Try.prog 10 #[.int .i64 h, .int .i64 l, .int .i64 i, .int .i64 n] w fun r w' => r = .returned (.tuple #[.int .i64 x, .int .i64 y]) ∧ Below w.heap.size w w') ∧
    (∀ w : World, Calls Try.prog 11 #[.int .i64 h, .int .i64 l, .int .i64 i, .int .i64 n] w fun r w' => r = .returned (.tuple #[.int .i64 x, .int .i64 y]) ∧ Below w.heap.size w w') := by
  by_cases hb : (h < 1 ∨ 8 < h ∨ l < 0 ∨ i < 0) ∨ n < 0 ∨ 281474976710656 < n
  · exact ⟨_, _, fun w => width_bad h l i n w hb, fun w => widthR_bad h l i n w hb⟩
  · obtain ⟨H, rfl⟩ : ∃ H : Nat, h = (H : Int) := ⟨h.toNat, by omega⟩
    obtain ⟨L, rfl⟩ : ∃ H : Nat, l = (H : Int) := ⟨l.toNat, by omega⟩
    obtain ⟨I, rfl⟩ : ∃ H : Nat, i = (H : Int) := ⟨i.toNat, by omega⟩
    obtain ⟨N, rfl⟩ : ∃ H : Nat, n = (H : Int) := ⟨n.toNat, by omega⟩
    exact ⟨_, _, fun w => width_ok H L I N w ⟨by omega, by omega⟩ (by omega) (by omega) (by omega), fun w => (widthR_ok H L I N w ⟨by omega, by omega⟩ (by omega) (by omega) (by omega)).mono (fun r v ⟨h1, h2⟩ => ⟨h1, by rw [h2]; exact Below.refl _ _⟩)⟩
theorem levels_both (h n : Int) : ∃ x y : Int, (∀ w : World, Calls Try.prog 12 #[.int .i64 h, .int .i64 n] w fun r w' => r = .returned (.tuple #[.int .i64 x, .int .i64 y]) ∧ Below w.heap.size w w') ∧
    (∀ w : World, Calls Try.prog 13 #[.int .i64 h, .int .i64 n] w fun r w' => r = .returned (.tuple #[.int .i64 x, .int .i64 y]) ∧ Below w.heap.size w w') := by
  by_cases hb : (h < 1 ∨ 8 < h) ∨ n < 0 ∨ 281474976710656 < n
  · exact ⟨_, _, fun w => levels_bad h n w hb, fun w => levelsR_bad h n w hb⟩
  · obtain ⟨H, rfl⟩ : ∃ H : Nat, h = (H : Int) := ⟨h.toNat, by omega⟩
    obtain ⟨N, rfl⟩ : ∃ H : Nat, n = (H : Int) := ⟨n.toNat, by omega⟩
    exact ⟨_, _, fun w => (levels_ok H N w ⟨by omega, by omega⟩ (by omega)).mono (fun r v ⟨h1, h2⟩ => ⟨h1, by rw [h2]; exact Below.refl _ _⟩), fun w => (levelsR_ok H N w ⟨by omega, by omega⟩ (by omega)).mono (fun r v ⟨h1, h2⟩ => ⟨h1, by rw [h2]; exact Below.refl _ _⟩)⟩
set_option maxRecDepth 100000 in
set_option maxHeartbeats 2000000 in
theorem tileWidths_walk (h l i k n : Int) (w : World) (hl : l ≤ 9223372036854775807) (hi : i ≤ 9223372036854775807) :
    Calls Try.prog 4 #[.agg #[.int .i64 h, .int .i64 l, .int .i64 i, .int .i64 k], .int .i64 n] w fun e w' => e = .returned (.bool true) ∧ Below w.heap.size w w' := by
  obtain ⟨x, y, o1, o2⟩ := width_both h l i n hl hi
  obtain ⟨u, v, o3, o4⟩ := levels_both h n
  have O1 := hide o1
  have O2 := hide o2
  have O3 := hide o3
  have O4 := hide o4
  clear o1 o2 o3 o4
  go_enter Try.func4, Try.ntmps4
  go_wp2_with (first | (refine step_box (cs := c4 h l i k) rfl rfl ?_; intro w1 g1 hg1 hle1 hb1; have HG1 := hide hg1; obtain ⟨c0, c1, c2, _⟩ := hg1.four; clear hg1))
  refine (O1.out _).mono ?_
  rintro e w2 ⟨rfl, hb2⟩
  have G2 := hide (HG1.out.on hb2)
  have q2 := on_below hb1 hb2
  clear HG1 hb1 hb2 c0 c1 c2
  obtain ⟨c0, c1, c2, _⟩ := G2.out.four
  go_wp2_with fail
  refine (O2.out _).mono ?_
  rintro e w3 ⟨rfl, hb3⟩
  have G3 := hide (G2.out.on hb3)
  have q3 := on_below q2 hb3
  clear G2 hb3 q2 c0 c1 c2
  obtain ⟨c0, c1, c2, _⟩ := G3.out.four
  go_wp2_with fail
  refine (O3.out _).mono ?_
  rintro e w4 ⟨rfl, hb4⟩
  have G4 := hide (G3.out.on hb4)
  have q4 := on_below q3 hb4
  clear G3 hb4 q3 c0 c1 c2
  obtain ⟨c0, c1, c2, _⟩ := G4.out.four
  go_wp2_with fail
  refine (O4.out _).mono ?_
  rintro e w5 ⟨rfl, hb5⟩
  have q5 := on_below q4 hb5
  clear G4 hb5 q4 c0 c1 c2
  go_wp2_with (go_at_call 9; refine (names10_any _).mono ?_; rintro e w' ⟨rfl, rfl⟩)
  go_ret
  exact ⟨rfl, q5⟩

end Go.Proofs.Ytnlpgkfmjlljdaa
