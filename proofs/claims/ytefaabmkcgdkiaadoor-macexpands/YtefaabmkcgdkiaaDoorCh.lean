/-
  mac.Child and the document's Child.
-/
import Derived.Test.YtefaabmkcgdkiaaDoorMr
import Derived.Test.YtefaabmkcgdkiaaDoorPu
import Derived.Test.YtefaabmkcgdkiaaDoorNmR
namespace Go.Proofs.YtefaabmkcgdkiaaDoor
open Go.RowKit
set_option linter.unusedVariables false

/-- What is hashed for a child. -/
def chm (s : ByteArray) (i : Int) : List Int := ((s.size : Nat) : Int) :: (sb s ++ be i 8)

set_option maxHeartbeats 2000000 in
theorem child_bad (ds : List Int) (s : ByteArray) (i : Int) (w : World) (hs : s.size ≤ 140737488351232) (he : s.size = 0 ∨ 255 < s.size ∨ i < 0) :
    Calls Tryd.prog 30 #[.agg (u8s ds).toArray, .string s, .int .i64 i] w fun r w' => r = .returned (.tuple #[.agg (u8s (zer 32)).toArray, .int .i64 2]) ∧ Below w.heap.size w w' := by
  have HL : Hid ((u8s (zer 32)).length = 32) := hide rfl
  go_enter Tryd.func30, Tryd.ntmps30
  go_wp2_with (refine step_box rfl rfl ?_)
  intro w1 g3 hg1 hle1 hb1
  go_wp2_with (refine step_alloc zD rfl ?_)
  intro w2 g6 hg2 hle2 hb2
  have HB2 := hide (hb1.trans (hb2.mono hb1.size))
  have G6 := hide hg2
  have hl6 : w.heap.size ≤ g6 := Nat.le_trans hb1.size hle2
  clear hg1 hg2 hb1 hb2 hle1 hle2
  have key : (((s.size : Nat) : Int) = 0) ∨ (¬ (((s.size : Nat) : Int) = 0) ∧ (255 : Int) < ((s.size : Nat) : Int)) ∨ (¬ (((s.size : Nat) : Int) = 0) ∧ ¬ (255 : Int) < ((s.size : Nat) : Int) ∧ i < 0) := by omega
  rcases key with h1 | ⟨h1, h2⟩ | ⟨h1, h2, h3⟩
  · have h1' : s.size = 0 := by omega
    have h1'' : ((s.size : Nat) : Int) < 1 := by omega
    go_wp2_with (first | (refine step_buildD rfl ?_) | (refine step_storeA wD rfl rfl rfl G6.out HL.out (One.u8 _) rfl ?_; intro w3 hg3 hbut3))
    refine bodyPost_ret (results_wide2 rfl wD _ _ rfl hg3 HL.out) rfl ⟨rfl, ?_⟩
    exact HB2.out.trans (hbut3.below hl6)
  · have h1' : ¬ s.size = 0 := by omega
    have h1'' : ¬ ((s.size : Nat) : Int) < 1 := by omega
    go_wp2_with (first | (refine step_buildD rfl ?_) | (refine step_storeA wD rfl rfl rfl G6.out HL.out (One.u8 _) rfl ?_; intro w3 hg3 hbut3))
    refine bodyPost_ret (results_wide2 rfl wD _ _ rfl hg3 HL.out) rfl ⟨rfl, ?_⟩
    exact HB2.out.trans (hbut3.below hl6)
  · have h1' : ¬ s.size = 0 := by omega
    have h1'' : ¬ ((s.size : Nat) : Int) < 1 := by omega
    go_wp2_with (first | (refine step_buildD rfl ?_) | (refine step_storeA wD rfl rfl rfl G6.out HL.out (One.u8 _) rfl ?_; intro w3 hg3 hbut3))
    refine bodyPost_ret (results_wide2 rfl wD _ _ rfl hg3 HL.out) rfl ⟨rfl, ?_⟩
    exact HB2.out.trans (hbut3.below hl6)

set_option maxHeartbeats 2000000 in
theorem childR_bad (ds : List Int) (s : ByteArray) (i : Int) (w : World) (hs : s.size ≤ 140737488351232) (he : s.size = 0 ∨ 255 < s.size ∨ i < 0) :
    Calls Tryd.prog 31 #[.agg (u8s ds).toArray, .string s, .int .i64 i] w fun r w' => r = .returned (.tuple #[.agg (u8s (zer 32)).toArray, .int .i64 2]) ∧ Below w.heap.size w w' := by
  have HL : Hid ((u8s (zer 32)).length = 32) := hide rfl
  go_enter Tryd.func31, Tryd.ntmps31
  go_wp2_with (refine step_box rfl rfl ?_)
  intro w1 g3 hg1 hle1 hb1
  go_wp2_with (refine step_alloc zD rfl ?_)
  intro w2 g6 hg2 hle2 hb2
  have HB2 := hide (hb1.trans (hb2.mono hb1.size))
  have G6 := hide hg2
  have hl6 : w.heap.size ≤ g6 := Nat.le_trans hb1.size hle2
  clear hg1 hg2 hb1 hb2 hle1 hle2
  have key : (((s.size : Nat) : Int) = 0) ∨ (¬ (((s.size : Nat) : Int) = 0) ∧ (255 : Int) < ((s.size : Nat) : Int)) ∨ (¬ (((s.size : Nat) : Int) = 0) ∧ ¬ (255 : Int) < ((s.size : Nat) : Int) ∧ i < 0) := by omega
  rcases key with h1 | ⟨h1, h2⟩ | ⟨h1, h2, h3⟩
  · have h1' : s.size = 0 := by omega
    have h1'' : ((s.size : Nat) : Int) < 1 := by omega
    go_wp2_with (first | (refine step_buildD rfl ?_) | (refine step_storeA wD rfl rfl rfl G6.out HL.out (One.u8 _) rfl ?_; intro w3 hg3 hbut3))
    refine bodyPost_ret (results_wide2 rfl wD _ _ rfl hg3 HL.out) rfl ⟨rfl, ?_⟩
    exact HB2.out.trans (hbut3.below hl6)
  · have h1' : ¬ s.size = 0 := by omega
    have h1'' : ¬ ((s.size : Nat) : Int) < 1 := by omega
    go_wp2_with (first | (refine step_buildD rfl ?_) | (refine step_storeA wD rfl rfl rfl G6.out HL.out (One.u8 _) rfl ?_; intro w3 hg3 hbut3))
    refine bodyPost_ret (results_wide2 rfl wD _ _ rfl hg3 HL.out) rfl ⟨rfl, ?_⟩
    exact HB2.out.trans (hbut3.below hl6)
  · have h1' : ¬ s.size = 0 := by omega
    have h1'' : ¬ ((s.size : Nat) : Int) < 1 := by omega
    go_wp2_with (first | (refine step_buildD rfl ?_) | (refine step_storeA wD rfl rfl rfl G6.out HL.out (One.u8 _) rfl ?_; intro w3 hg3 hbut3))
    refine bodyPost_ret (results_wide2 rfl wD _ _ rfl hg3 HL.out) rfl ⟨rfl, ?_⟩
    exact HB2.out.trans (hbut3.below hl6)

end Go.Proofs.YtefaabmkcgdkiaaDoor
