/-
  What is known of the types of the program, by the program's own tables.
-/
import Derived.Test.YtnlpgkfmjlljdaaDoorMe
namespace Go.Proofs.YtnlpgkfmjlljdaaDoor
open Go.RowKit
set_option linter.unusedVariables false

theorem zD : Zeroed 40 (u8s (zer 32)) := fun _ _ _ _ _ _ _ => by kernel_rfl
theorem wD : Wide 40 32 := ⟨by kernel_rfl, by kernel_rfl⟩
theorem aD : Arr 40 5 .u8 32 := ⟨by kernel_rfl, by kernel_rfl, by kernel_rfl, by kernel_rfl, by kernel_rfl, by kernel_rfl⟩

/-- The cells of a state. -/
def stC (made : Bool) (ws : List Int) (n : Int) (rest : List Int) : List Value := Value.bool made :: (u32s ws ++ Value.int .i64 n :: u8s rest)
theorem zSt : Zeroed 115 (stC false (zer 8) 0 (zer 64)) := fun _ _ _ _ _ _ _ => by kernel_rfl
theorem wSt : Wide 115 74 := ⟨by kernel_rfl, by kernel_rfl⟩

section
variable {dst : Option Tmp} {ty : TypeId} {pos : String} {aft : Array Edge} {gd : Option (Nat × Bool)} {ops : Array Oper} {rest : List Oper} {a : Act} {w : World} {Q : Exit → Act → World → Prop}
theorem step_buildD (hw : Region.wanted ⟨dst, .build 40 #[], ty, pos, aft, gd⟩ (yielded ops a.tmps) = true)
    (h : wpList Tryd.prog ops Q rest (a.put dst (.agg (u8s (zer 32)).toArray)) w) : wpList Tryd.prog ops Q (⟨dst, .build 40 #[], ty, pos, aft, gd⟩ :: rest) a w :=
  step_run hw (.agg (u8s (zer 32)).toArray) w (by kernel_rfl) h
theorem step_buildSt (hw : Region.wanted ⟨dst, .build 115 #[], ty, pos, aft, gd⟩ (yielded ops a.tmps) = true)
    (h : wpList Tryd.prog ops Q rest (a.put dst (.agg (stC false (zer 8) 0 (zer 64)).toArray)) w) : wpList Tryd.prog ops Q (⟨dst, .build 115 #[], ty, pos, aft, gd⟩ :: rest) a w :=
  step_run hw (.agg (stC false (zer 8) 0 (zer 64)).toArray) w (by kernel_rfl) h
end

end Go.Proofs.YtnlpgkfmjlljdaaDoor
