/-
  Slices of names.
-/
import Derived.Test.YtpocadbhajacaaaGreatDoorKqb
namespace Go.Proofs.YtpocadbhajacaaaGreatDoor
open Go.RowKit
set_option linter.unusedVariables false

theorem rSt : Ro 74 9 1 16 (.string ByteArray.empty) := ⟨by kernel_rfl, by kernel_rfl, by kernel_rfl, rfl, by decide, by decide, fun w => by kernel_rfl⟩
theorem build_S (n : ByteArray) (w : World) : (Instr.buildSlice 74 1 #[(0, .string n)]).run Tryz.prog w = .ok (.slice (some ⟨w.heap.size, 0, none⟩) 1 1) (w.alloc (.cells #[.string n] 9)) := by kernel_rfl
section
variable {dst : Option Tmp} {ty : TypeId} {pos : String} {aft : Array Edge} {gd : Option (Nat × Bool)} {ops : Array Oper} {rest : List Oper} {a : Act} {w : World} {Q : Exit → Act → World → Prop}
set_option maxRecDepth 100000 in
theorem step_oneS {x : Operand} {n : ByteArray} (hw : Region.wanted ⟨dst, .buildSlice 74 1 #[(0, x)], ty, pos, aft, gd⟩ (yielded ops a.tmps) = true) (hx : a.eval x = .string n) (h : ∀ w1 v, Vw w1 9 1 v 1 [.string n] → Below w.heap.size w w1 → wpList Tryz.prog ops Q rest (a.put dst v) w1) :
    wpList Tryz.prog ops Q (⟨dst, .buildSlice 74 1 #[(0, x)], ty, pos, aft, gd⟩ :: rest) a w := by
  refine step_run hw (.slice (some ⟨w.heap.size, 0, none⟩) 1 1) (w.alloc (.cells #[.string n] 9)) ?_ (h _ _ ⟨rfl, _, _, rfl, Nat.le_refl _, fun _ => ⟨_, 0, [.string n], rfl, Blk.made w 9 [.string n], rfl⟩⟩ ((Below.refl _ _).alloc (Nat.le_refl _) _))
  unfold execOp
  simp only [List.map_toArray, List.map_cons, List.map_nil, hx]
  simp only [Sem.run_bind, build_S, Result.andThen_ok, Sem.run_pure]
end
def nmsC (l : List (ByteArray × List Int)) : List Value := l.map fun x => .string x.1
theorem nmsC_succ (l : List (ByteArray × List Int)) {k : Nat} {x : ByteArray × List Int} (h : l[k]? = some x) : nmsC (l.take (k + 1)) = nmsC (l.take k) ++ [.string x.1] := by
  obtain ⟨hi, rfl⟩ := List.getElem?_eq_some_iff.1 h
  rw [List.take_succ_eq_append_getElem hi]
  unfold nmsC
  rw [List.map_append]
  rfl

end Go.Proofs.YtpocadbhajacaaaGreatDoor
