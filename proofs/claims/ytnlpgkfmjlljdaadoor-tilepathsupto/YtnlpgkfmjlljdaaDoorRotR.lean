/-
  The document's turning of words.
-/
import Derived.Test.YtnlpgkfmjlljdaaDoorRot
namespace Go.Proofs.YtnlpgkfmjlljdaaDoor
open Go.RowKit
set_option linter.unusedVariables false

set_option maxHeartbeats 400000 in
theorem ror2_any (x : Int) (w : World) :
    Calls Tryd.prog 130 #[.int .u32 x, .int .u64 2] w fun e w' => e = .returned (.int .u32 (ror x 2)) ∧ w = w' := by
  rw [ror_2]
  go_enter Tryd.func130, Tryd.ntmps130
  go_wp2
  go_ret
  exact ⟨rfl, rfl⟩

set_option maxHeartbeats 400000 in
theorem ror6_any (x : Int) (w : World) :
    Calls Tryd.prog 130 #[.int .u32 x, .int .u64 6] w fun e w' => e = .returned (.int .u32 (ror x 6)) ∧ w = w' := by
  rw [ror_6]
  go_enter Tryd.func130, Tryd.ntmps130
  go_wp2
  go_ret
  exact ⟨rfl, rfl⟩

set_option maxHeartbeats 400000 in
theorem ror7_any (x : Int) (w : World) :
    Calls Tryd.prog 130 #[.int .u32 x, .int .u64 7] w fun e w' => e = .returned (.int .u32 (ror x 7)) ∧ w = w' := by
  rw [ror_7]
  go_enter Tryd.func130, Tryd.ntmps130
  go_wp2
  go_ret
  exact ⟨rfl, rfl⟩

set_option maxHeartbeats 400000 in
theorem ror11_any (x : Int) (w : World) :
    Calls Tryd.prog 130 #[.int .u32 x, .int .u64 11] w fun e w' => e = .returned (.int .u32 (ror x 11)) ∧ w = w' := by
  rw [ror_11]
  go_enter Tryd.func130, Tryd.ntmps130
  go_wp2
  go_ret
  exact ⟨rfl, rfl⟩

set_option maxHeartbeats 400000 in
theorem ror13_any (x : Int) (w : World) :
    Calls Tryd.prog 130 #[.int .u32 x, .int .u64 13] w fun e w' => e = .returned (.int .u32 (ror x 13)) ∧ w = w' := by
  rw [ror_13]
  go_enter Tryd.func130, Tryd.ntmps130
  go_wp2
  go_ret
  exact ⟨rfl, rfl⟩

set_option maxHeartbeats 400000 in
theorem ror17_any (x : Int) (w : World) :
    Calls Tryd.prog 130 #[.int .u32 x, .int .u64 17] w fun e w' => e = .returned (.int .u32 (ror x 17)) ∧ w = w' := by
  rw [ror_17]
  go_enter Tryd.func130, Tryd.ntmps130
  go_wp2
  go_ret
  exact ⟨rfl, rfl⟩

set_option maxHeartbeats 400000 in
theorem ror18_any (x : Int) (w : World) :
    Calls Tryd.prog 130 #[.int .u32 x, .int .u64 18] w fun e w' => e = .returned (.int .u32 (ror x 18)) ∧ w = w' := by
  rw [ror_18]
  go_enter Tryd.func130, Tryd.ntmps130
  go_wp2
  go_ret
  exact ⟨rfl, rfl⟩

set_option maxHeartbeats 400000 in
theorem ror19_any (x : Int) (w : World) :
    Calls Tryd.prog 130 #[.int .u32 x, .int .u64 19] w fun e w' => e = .returned (.int .u32 (ror x 19)) ∧ w = w' := by
  rw [ror_19]
  go_enter Tryd.func130, Tryd.ntmps130
  go_wp2
  go_ret
  exact ⟨rfl, rfl⟩

set_option maxHeartbeats 400000 in
theorem ror22_any (x : Int) (w : World) :
    Calls Tryd.prog 130 #[.int .u32 x, .int .u64 22] w fun e w' => e = .returned (.int .u32 (ror x 22)) ∧ w = w' := by
  rw [ror_22]
  go_enter Tryd.func130, Tryd.ntmps130
  go_wp2
  go_ret
  exact ⟨rfl, rfl⟩

set_option maxHeartbeats 400000 in
theorem ror25_any (x : Int) (w : World) :
    Calls Tryd.prog 130 #[.int .u32 x, .int .u64 25] w fun e w' => e = .returned (.int .u32 (ror x 25)) ∧ w = w' := by
  rw [ror_25]
  go_enter Tryd.func130, Tryd.ntmps130
  go_wp2
  go_ret
  exact ⟨rfl, rfl⟩

theorem ror_any (x v : Int) (h : turns.elem v = true) (w : World) : Calls Tryd.prog 130 #[.int .u32 x, .int .u64 v] w fun e w' => e = .returned (.int .u32 (ror x v.toNat)) ∧ w = w' := by
  simp only [turns, List.elem_eq_mem, List.mem_cons, List.not_mem_nil, or_false, decide_eq_true_eq] at h
  rcases h with rfl | rfl | rfl | rfl | rfl | rfl | rfl | rfl | rfl | rfl
  · exact ror2_any x w
  · exact ror6_any x w
  · exact ror7_any x w
  · exact ror11_any x w
  · exact ror13_any x w
  · exact ror17_any x w
  · exact ror18_any x w
  · exact ror19_any x w
  · exact ror22_any x w
  · exact ror25_any x w

end Go.Proofs.YtnlpgkfmjlljdaaDoor
