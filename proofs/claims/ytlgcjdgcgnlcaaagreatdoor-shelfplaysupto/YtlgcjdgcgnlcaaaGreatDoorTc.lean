/-
  Tiles as structs; where a node is: the program's Of and the document's.
-/
import Derived.Test.YtlgcjdgcgnlcaaaGreatDoorTb
import Derived.Test.YtlgcjdgcgnlcaaaGreatDoorNv
namespace Go.Proofs.YtlgcjdgcgnlcaaaGreatDoor
open Go.RowKit
set_option linter.unusedVariables false

/-- The cells of a tile. -/
def c4 (h l i n : Int) : List Value := [.int .i64 h, .int .i64 l, .int .i64 i, .int .i64 n]
theorem One.c4 (h l i n : Int) : One (c4 h l i n) := by intro v hv; simp [Go.Proofs.YtlgcjdgcgnlcaaaGreatDoor.c4] at hv; rcases hv with rfl | rfl | rfl | rfl <;> rfl
theorem zT : Zeroed 43 (c4 0 0 0 0) := fun _ _ _ _ _ _ _ => by kernel_rfl
theorem wT : Wide 43 4 := ⟨by kernel_rfl, by kernel_rfl⟩
theorem Blk.four {w : World} {g : Nat} {t : TypeId} {h l i n : Int} (k : Blk w g t (c4 h l i n)) : w.cell? ⟨g, 0, none⟩ = some (.int .i64 h) ∧ w.cell? ⟨g, 1, none⟩ = some (.int .i64 l) ∧ w.cell? ⟨g, 2, none⟩ = some (.int .i64 i) ∧ w.cell? ⟨g, 3, none⟩ = some (.int .i64 n) :=
  ⟨by rw [k.cell]; rfl, by rw [k.cell]; rfl, by rw [k.cell]; rfl, by rw [k.cell]; rfl⟩

end Go.Proofs.YtlgcjdgcgnlcaaaGreatDoor
