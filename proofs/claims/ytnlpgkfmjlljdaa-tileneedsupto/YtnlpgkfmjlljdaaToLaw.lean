/-
  The walk of TileOf.
-/
import Derived.Test.YtnlpgkfmjlljdaaTc
namespace Go.Proofs.Ytnlpgkfmjlljdaa
open Go.RowKit
set_option linter.unusedVariables false

theorem names10_any (w : World) : Calls Try.prog 9 #[] w fun e w' => e = .returned (.bool true) ∧ w' = w := by
  go_enter Try.func9, Try.ntmps9
  go_wp2
  go_ret
  exact ⟨rfl, rfl⟩
/-- Both tell the same of any node. -/
theorem of_both (h l i : Int) : ∃ a b c d x y z : Int, (∀ w : World, Calls Try.prog 7 #[.int .i64 h, .agg #[.int .i64 l, .int .i64 i]] w fun r w' => r = .returned (.tuple #[.agg #[.int .i64 a, .int .i64 b, .int .i64 c, .int .i64 d], .int .i64 x, .int .i64 y, .int .i64 z]) ∧ Below w.heap.size w w') ∧
    (∀ w : World, Calls Try.prog 8 #[.int .i64 h, .agg #[.int .i64 l, .int .i64 i]] w fun r w' => r = .returned (.tuple #[.agg #[.int .i64 a, .int .i64 b, .int .i64 c, .int .i64 d], .int .i64 x, .int .i64 y, .int .i64 z]) ∧ Below w.heap.size w w') := by
  by_cases hh : h < 1 ∨ 8 < h
  · exact ⟨0, 0, 0, 0, 0, 0, 2, fun w => of_no1 h l i w hh, fun w => ofR_no1 h l i w hh⟩
  · obtain ⟨H, rfl⟩ : ∃ H : Nat, h = (H : Int) := ⟨h.toNat, by omega⟩
    have hH : isH H := ⟨by omega, by omega⟩
    by_cases hv : V l i
    · obtain ⟨L, I, rfl, rfl, hL, h1⟩ := hv.nats
      exact ⟨_, _, _, _, _, _, _, fun w => of_ok H L I w hH hL h1, fun w => ofR_ok H L I w hH hL h1⟩
    · exact ⟨0, 0, 0, 0, 0, 0, 2, fun w => of_no2 H l i w hH hv, fun w => ofR_no2 H l i w hH hv⟩
set_option maxRecDepth 100000 in
set_option maxHeartbeats 2000000 in
theorem tileOf_walk (h l i : Int) (w : World) :
    Calls Try.prog 3 #[.int .i64 h, .agg #[.int .i64 l, .int .i64 i]] w fun e w' => e = .returned (.bool true) ∧ Below w.heap.size w w' := by
  obtain ⟨a, b, c, d, x, y, z, o1, o2⟩ := of_both h l i
  have O1 := hide o1
  have O2 := hide o2
  clear o1 o2
  go_enter Try.func3, Try.ntmps3
  go_wp2_with (first | (refine step_box (cs := c2 l i) rfl rfl ?_; intro w1 g1 hg1 hle1 hb1; have HG1 := hide hg1; clear hg1) | (refine step_loadA wN rfl rfl HG1.out rfl ?_))
  refine (O1.out _).mono ?_
  rintro e w2 ⟨rfl, hb2⟩
  have G2 := hide (HG1.out.on hb2)
  have q2 := on_below hb1 hb2
  clear HG1 hb1 hb2
  go_wp2_with (first | (refine step_alloc zT rfl ?_; intro w3 g3 hg3 hle3 hb3; have HG3 := hide hg3; clear hg3) | (refine step_storeA wT rfl rfl rfl HG3.out rfl (One.c4 a b c d) rfl ?_))
  intro w4 hg4 hbut4
  have q4 := new_below q2 hb3 hle3 hbut4
  have HG4 := hide hg4
  have G4 := hide ((G2.out.on hb3).but hbut4 (by have := G2.out.lt; omega))
  clear G2 q2 hb3 hle3 hbut4 HG3 hg4
  go_wp2_with (refine step_loadA wN rfl rfl G4.out rfl ?_)
  refine (O2.out _).mono ?_
  rintro e w5 ⟨rfl, hb5⟩
  have HG5 := hide (HG4.out.on hb5)
  have q5 := on_below q4 hb5
  clear HG4 G4 hb5 q4
  go_wp2_with (first | (refine step_alloc zT rfl ?_; intro w6 g6 hg6 hle6 hb6; have HG6 := hide hg6; clear hg6) | (refine step_storeA wT rfl rfl rfl HG6.out rfl (One.c4 a b c d) rfl ?_))
  intro w7 hg7 hbut7
  have q7 := new_below q5 hb6 hle6 hbut7
  obtain ⟨c0, c1, c2, c3⟩ := hg7.four
  obtain ⟨d0, d1, d2, d3⟩ := ((HG5.out.on hb6).but hbut7 (by have := HG5.out.lt; omega)).four
  clear hg7 hbut7 hb6 hle6 HG6 HG5 q5
  go_wp2_with (go_at_call 9; refine (names10_any _).mono ?_; rintro e w' ⟨rfl, rfl⟩)
  go_ret
  exact ⟨rfl, q7⟩

end Go.Proofs.Ytnlpgkfmjlljdaa
