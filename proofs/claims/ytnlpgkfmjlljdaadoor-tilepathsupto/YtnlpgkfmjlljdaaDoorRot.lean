/-
  The small functions on words: turning, mixing.
-/
import Derived.Test.YtnlpgkfmjlljdaaDoorProg
import Derived.Test.YtnlpgkfmjlljdaaDoorPlain
import Derived.WalkKit
import Derived.WalkSpells
import Derived.WalkLawsBesides
namespace Go.Proofs.YtnlpgkfmjlljdaaDoor
open Go.RowKit
set_option linter.unusedVariables false

/-- x turned right by k bits. -/
def ror (x : Int) (k : Nat) : Int := bits .or .u32 (x / 2 ^ k) (IntKind.u32.wrap (x * 2 ^ (32 - k)))
def xr (a b : Int) : Int := bits .xor .u32 a b
def an (a b : Int) : Int := bits .and .u32 a b
def sg (x : Int) (i j k : Nat) : Int := xr (xr (ror x i) (ror x j)) (ror x k)
def s0 (x : Int) : Int := xr (xr (ror x 7) (ror x 18)) (x / 8)
def s1 (x : Int) : Int := xr (xr (ror x 17) (ror x 19)) (x / 1024)

theorem or_comm32 (a b : Int) : bits .or .u32 a b = bits .or .u32 b a := by
  simp [bits, BitVec.or_comm]

theorem ror_2 (x : Int) : ror x 2 = bits .or .u32 (x / 4) (IntKind.u32.wrap (x * 1073741824)) := rfl
set_option maxHeartbeats 400000 in
theorem rotl2_any (x : Int) (w : World) :
    Calls Tryd.prog 127 #[.int .u32 x, .int .i64 (-2)] w fun e w' => e = .returned (.int .u32 (ror x 2)) ∧ w = w' := by
  rw [ror_2, or_comm32]
  have hb : bits BinOp.and IntKind.u64 (IntKind.u64.wrap (-2)) 31 = 30 := by decide
  go_enter Tryd.func127, Tryd.ntmps127
  go_wp2
  go_ret
  exact ⟨rfl, rfl⟩

theorem ror_6 (x : Int) : ror x 6 = bits .or .u32 (x / 64) (IntKind.u32.wrap (x * 67108864)) := rfl
set_option maxHeartbeats 400000 in
theorem rotl6_any (x : Int) (w : World) :
    Calls Tryd.prog 127 #[.int .u32 x, .int .i64 (-6)] w fun e w' => e = .returned (.int .u32 (ror x 6)) ∧ w = w' := by
  rw [ror_6, or_comm32]
  have hb : bits BinOp.and IntKind.u64 (IntKind.u64.wrap (-6)) 31 = 26 := by decide
  go_enter Tryd.func127, Tryd.ntmps127
  go_wp2
  go_ret
  exact ⟨rfl, rfl⟩

theorem ror_7 (x : Int) : ror x 7 = bits .or .u32 (x / 128) (IntKind.u32.wrap (x * 33554432)) := rfl
set_option maxHeartbeats 400000 in
theorem rotl7_any (x : Int) (w : World) :
    Calls Tryd.prog 127 #[.int .u32 x, .int .i64 (-7)] w fun e w' => e = .returned (.int .u32 (ror x 7)) ∧ w = w' := by
  rw [ror_7, or_comm32]
  have hb : bits BinOp.and IntKind.u64 (IntKind.u64.wrap (-7)) 31 = 25 := by decide
  go_enter Tryd.func127, Tryd.ntmps127
  go_wp2
  go_ret
  exact ⟨rfl, rfl⟩

theorem ror_11 (x : Int) : ror x 11 = bits .or .u32 (x / 2048) (IntKind.u32.wrap (x * 2097152)) := rfl
set_option maxHeartbeats 400000 in
theorem rotl11_any (x : Int) (w : World) :
    Calls Tryd.prog 127 #[.int .u32 x, .int .i64 (-11)] w fun e w' => e = .returned (.int .u32 (ror x 11)) ∧ w = w' := by
  rw [ror_11, or_comm32]
  have hb : bits BinOp.and IntKind.u64 (IntKind.u64.wrap (-11)) 31 = 21 := by decide
  go_enter Tryd.func127, Tryd.ntmps127
  go_wp2
  go_ret
  exact ⟨rfl, rfl⟩

theorem ror_13 (x : Int) : ror x 13 = bits .or .u32 (x / 8192) (IntKind.u32.wrap (x * 524288)) := rfl
set_option maxHeartbeats 400000 in
theorem rotl13_any (x : Int) (w : World) :
    Calls Tryd.prog 127 #[.int .u32 x, .int .i64 (-13)] w fun e w' => e = .returned (.int .u32 (ror x 13)) ∧ w = w' := by
  rw [ror_13, or_comm32]
  have hb : bits BinOp.and IntKind.u64 (IntKind.u64.wrap (-13)) 31 = 19 := by decide
  go_enter Tryd.func127, Tryd.ntmps127
  go_wp2
  go_ret
  exact ⟨rfl, rfl⟩

theorem ror_17 (x : Int) : ror x 17 = bits .or .u32 (x / 131072) (IntKind.u32.wrap (x * 32768)) := rfl
set_option maxHeartbeats 400000 in
theorem rotl17_any (x : Int) (w : World) :
    Calls Tryd.prog 127 #[.int .u32 x, .int .i64 (-17)] w fun e w' => e = .returned (.int .u32 (ror x 17)) ∧ w = w' := by
  rw [ror_17, or_comm32]
  have hb : bits BinOp.and IntKind.u64 (IntKind.u64.wrap (-17)) 31 = 15 := by decide
  go_enter Tryd.func127, Tryd.ntmps127
  go_wp2
  go_ret
  exact ⟨rfl, rfl⟩

theorem ror_18 (x : Int) : ror x 18 = bits .or .u32 (x / 262144) (IntKind.u32.wrap (x * 16384)) := rfl
set_option maxHeartbeats 400000 in
theorem rotl18_any (x : Int) (w : World) :
    Calls Tryd.prog 127 #[.int .u32 x, .int .i64 (-18)] w fun e w' => e = .returned (.int .u32 (ror x 18)) ∧ w = w' := by
  rw [ror_18, or_comm32]
  have hb : bits BinOp.and IntKind.u64 (IntKind.u64.wrap (-18)) 31 = 14 := by decide
  go_enter Tryd.func127, Tryd.ntmps127
  go_wp2
  go_ret
  exact ⟨rfl, rfl⟩

theorem ror_19 (x : Int) : ror x 19 = bits .or .u32 (x / 524288) (IntKind.u32.wrap (x * 8192)) := rfl
set_option maxHeartbeats 400000 in
theorem rotl19_any (x : Int) (w : World) :
    Calls Tryd.prog 127 #[.int .u32 x, .int .i64 (-19)] w fun e w' => e = .returned (.int .u32 (ror x 19)) ∧ w = w' := by
  rw [ror_19, or_comm32]
  have hb : bits BinOp.and IntKind.u64 (IntKind.u64.wrap (-19)) 31 = 13 := by decide
  go_enter Tryd.func127, Tryd.ntmps127
  go_wp2
  go_ret
  exact ⟨rfl, rfl⟩

theorem ror_22 (x : Int) : ror x 22 = bits .or .u32 (x / 4194304) (IntKind.u32.wrap (x * 1024)) := rfl
set_option maxHeartbeats 400000 in
theorem rotl22_any (x : Int) (w : World) :
    Calls Tryd.prog 127 #[.int .u32 x, .int .i64 (-22)] w fun e w' => e = .returned (.int .u32 (ror x 22)) ∧ w = w' := by
  rw [ror_22, or_comm32]
  have hb : bits BinOp.and IntKind.u64 (IntKind.u64.wrap (-22)) 31 = 10 := by decide
  go_enter Tryd.func127, Tryd.ntmps127
  go_wp2
  go_ret
  exact ⟨rfl, rfl⟩

theorem ror_25 (x : Int) : ror x 25 = bits .or .u32 (x / 33554432) (IntKind.u32.wrap (x * 128)) := rfl
set_option maxHeartbeats 400000 in
theorem rotl25_any (x : Int) (w : World) :
    Calls Tryd.prog 127 #[.int .u32 x, .int .i64 (-25)] w fun e w' => e = .returned (.int .u32 (ror x 25)) ∧ w = w' := by
  rw [ror_25, or_comm32]
  have hb : bits BinOp.and IntKind.u64 (IntKind.u64.wrap (-25)) 31 = 7 := by decide
  go_enter Tryd.func127, Tryd.ntmps127
  go_wp2
  go_ret
  exact ⟨rfl, rfl⟩

def turns : List Int := [2, 6, 7, 11, 13, 17, 18, 19, 22, 25]
theorem rotl_any (x v : Int) (h : turns.elem (-v) = true) (w : World) : Calls Tryd.prog 127 #[.int .u32 x, .int .i64 v] w fun e w' => e = .returned (.int .u32 (ror x (-v).toNat)) ∧ w = w' := by
  obtain ⟨u, rfl⟩ : ∃ u, v = -u := ⟨-v, by omega⟩
  rw [Int.neg_neg] at h ⊢
  simp only [turns, List.elem_eq_mem, List.mem_cons, List.not_mem_nil, or_false, decide_eq_true_eq] at h
  rcases h with rfl | rfl | rfl | rfl | rfl | rfl | rfl | rfl | rfl | rfl
  · exact rotl2_any x w
  · exact rotl6_any x w
  · exact rotl7_any x w
  · exact rotl11_any x w
  · exact rotl13_any x w
  · exact rotl17_any x w
  · exact rotl18_any x w
  · exact rotl19_any x w
  · exact rotl22_any x w
  · exact rotl25_any x w

set_option maxHeartbeats 400000 in
theorem late_any (x : Int) (w : World) : Calls Tryd.prog 125 #[.int .u32 x] w fun e w' => e = .returned (.int .u32 (s1 x)) ∧ w = w' := by
  go_enter Tryd.func125, Tryd.ntmps125
  go_wp2_with (go_at_call 127; refine (rotl_any _ _ (by decide) _).mono ?_; rintro e w' ⟨rfl, rfl⟩)
  go_ret
  exact ⟨rfl, rfl⟩

set_option maxHeartbeats 400000 in
theorem early_any (x : Int) (w : World) : Calls Tryd.prog 126 #[.int .u32 x] w fun e w' => e = .returned (.int .u32 (s0 x)) ∧ w = w' := by
  go_enter Tryd.func126, Tryd.ntmps126
  go_wp2_with (go_at_call 127; refine (rotl_any _ _ (by decide) _).mono ?_; rintro e w' ⟨rfl, rfl⟩)
  go_ret
  exact ⟨rfl, rfl⟩

set_option maxHeartbeats 400000 in
theorem turned1_any (x : Int) (w : World) : Calls Tryd.prog 118 #[.int .u32 x, .int .i64 6, .int .i64 11, .int .i64 25] w fun e w' => e = .returned (.int .u32 (sg x 6 11 25)) ∧ w = w' := by
  go_enter Tryd.func118, Tryd.ntmps118
  go_wp2_with (go_at_call 127; refine (rotl_any _ _ (by decide) _).mono ?_; rintro e w' ⟨rfl, rfl⟩)
  go_ret
  exact ⟨rfl, rfl⟩

set_option maxHeartbeats 400000 in
theorem turned0_any (x : Int) (w : World) : Calls Tryd.prog 118 #[.int .u32 x, .int .i64 2, .int .i64 13, .int .i64 22] w fun e w' => e = .returned (.int .u32 (sg x 2 13 22)) ∧ w = w' := by
  go_enter Tryd.func118, Tryd.ntmps118
  go_wp2_with (go_at_call 127; refine (rotl_any _ _ (by decide) _).mono ?_; rintro e w' ⟨rfl, rfl⟩)
  go_ret
  exact ⟨rfl, rfl⟩

end Go.Proofs.YtnlpgkfmjlljdaaDoor
