/-
  Disks that no call made: Raw, Same, and the way through the names; New; the law's raws.
-/
import Derived.Test.YtpocadbhajacaaaGreatDoorKna
import Derived.Test.YtpocadbhajacaaaGreatDoorIs
namespace Go.Proofs.YtpocadbhajacaaaGreatDoor
open Go.RowKit Go.Shelf
set_option linter.unusedVariables false

/-- The cells of a raw write. -/
def rwC (k : Int) (n : ByteArray) (b : Value) (s : Int) (t : ByteArray) : List Value := [.int .i64 k, .string n, b, .int .i64 s, .string t]
def rw0 : List Value := rwC 0 ByteArray.empty (.slice none 0 0) 0 ByteArray.empty
theorem wRw : Wide 117 5 := ⟨by kernel_rfl, by kernel_rfl⟩
theorem One.rw (k : Int) (n : ByteArray) (a : Option Addr) (l c : Nat) (s : Int) (t : ByteArray) : One (rwC k n (.slice a l c) s t) := by
  intro v hv
  simp [rwC] at hv
  rcases hv with rfl | rfl | rfl | rfl | rfl <;> rfl
section
variable {dst : Option Tmp} {ty : TypeId} {pos : String} {aft : Array Edge} {gd : Option (Nat × Bool)} {ops : Array Oper} {rest : List Oper} {a : Act} {w : World} {Q : Exit → Act → World → Prop}
/-- The cells of a disk. -/
def dkC (s : Int) (m : Option Nat) (r : Value) (n : Int) : List Value := [.int .i64 s, .map m, r, .int .i64 n]
theorem run_buildDk (s : Int) (m : Nat) (w : World) : (Instr.build 51 #[(0, .int .i64 s), (1, .map (some m))]).run Tryz.prog w = .ok (.agg (dkC s (some m) (.slice none 0 0) 0).toArray) w := by kernel_rfl
theorem step_buildDk {x y : Operand} {s : Int} {m : Nat} (hw : Region.wanted ⟨dst, .build 51 #[(0, x), (1, y)], ty, pos, aft, gd⟩ (yielded ops a.tmps) = true) (hx : a.eval x = .int .i64 s) (hy : a.eval y = .map (some m))
    (h : wpList Tryz.prog ops Q rest (a.put dst (.agg (dkC s (some m) (.slice none 0 0) 0).toArray)) w) : wpList Tryz.prog ops Q (⟨dst, .build 51 #[(0, x), (1, y)], ty, pos, aft, gd⟩ :: rest) a w :=
  step_run hw _ w (run_op (M := Instr.build 51 #[(0, .int .i64 s), (1, .map (some m))]) (by simp [execOp, hx, hy]) (run_buildDk s m w)) h
end
/-- A new disk's memory. -/
structure New0 (w w' : World) (g m : Nat) (s : Int) : Prop where
  dk : Blk w' g 51 (dkC s (some m) (.slice none 0 0) 0)
  mp : w'.heap[m]? = some (.map #[] 0)
  new : w.heap.size ≤ g ∧ w.heap.size ≤ m
  bel : Below w.heap.size w w'
theorem empty_any (s : Int) (w : World) : Calls Tryz.prog 54 #[.int .i64 s] w fun e w' => ∃ g m, e = .returned (.pointer (some ⟨g, 0, none⟩)) ∧ New0 w w' g m s := by
  have hmk : ∀ w : World, (Instr.makeMap 48 none).run Tryz.prog w = .ok (.map (some w.heap.size)) (w.alloc (.map #[] 0)) := fun w => by kernel_rfl
  go_enter Tryz.func54, Tryz.ntmps54
  go_wp2_with (first | (refine step_buildDk rfl rfl rfl ?_) | (refine step_box (cs := dkC s (some w.heap.size) (.slice none 0 0) 0) rfl rfl ?_; intro w1 g1 hg1 hle1 hb1))
  go_ret
  have hb0 : Below w.heap.size w (w.alloc (.map #[] 0)) := (Below.refl _ _).alloc (Nat.le_refl _) _
  refine ⟨_, _, rfl, hg1, ?_, ⟨by have := hb0.size; omega, Nat.le_refl _⟩, hb0.trans (hb1.mono hb0.size)⟩
  have e : (w.alloc (.map #[] 0)).heap[w.heap.size]? = some (.map #[] 0) := heap_alloc_new w _
  rw [hb1.block _ (by simp)]
  exact e
theorem new_ok (s : Int) (w : World) (h1 : 1 ≤ s) (h2 : s ≤ 4096) : Calls Tryz.prog 20 #[.int .i64 s] w fun e w' => ∃ g m, e = .returned (.tuple #[.pointer (some ⟨g, 0, none⟩), .int .i64 0]) ∧ New0 w w' g m s := by
  have h3 : ¬ s < 1 := by omega
  have h4 : ¬ 4096 < s := by omega
  go_enter Tryz.func20, Tryz.ntmps20
  go_wp2_with (go_at_call 54; refine (empty_any _ _).mono ?_; rintro e w' ⟨g, m, rfl, hN⟩)
  go_ret2
  exact ⟨g, m, rfl, hN⟩

end Go.Proofs.YtpocadbhajacaaaGreatDoor
