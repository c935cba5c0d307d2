/-
  What stands through a loop over a function: cells, and the marks of loops that are done.
-/
import Derived.Test.YtninkkdbcgadpaaGreatDoorMc
import Derived.Test.YtninkkdbcgadpaaGreatDoorNw
import Derived.Test.YtninkkdbcgadpaaGreatDoorIs
namespace Go.Proofs.YtninkkdbcgadpaaGreatDoor
open Go.RowKit Go.Shelf
set_option linter.unusedVariables false

theorem Blk.kept {A B : World} {g : Nat} {t : TypeId} {cs : List Value} {row : Option Nat} (h : Blk A g t cs) (hg : A.grownBy B row) (hr : ∀ r, row = some r → ∃ o : Obj, A.heap[r]? = some o ∧ o.isCells = false) : Blk B g t cs := by
  have e : B.heap[g]? = A.heap[g]? := hg.block g h.lt (fun e => by
    obtain ⟨o, ho, hc⟩ := hr g e.symm
    rw [h] at ho
    injection ho with ho
    subst ho
    cases hc)
  unfold Blk
  rw [e]
  exact h
theorem mark_kept {A B : World} {row : Option Nat} {D n : Nat} (hx : A.heap[D]? = some (.deferred (some []))) (hg : A.grownBy B row) (hr : ∀ r, row = some r → n ≤ r ∧ ∃ o : Obj, A.heap[r]? = some o ∧ o.isCells = false) (hD : D < n) : B.heap[D]? = some (.deferred (some [])) := by
  rw [hg.block D (Array.getElem?_eq_some_iff.1 hx).1 (fun e => by have := (hr D e.symm).1; omega)]
  exact hx
theorem mark_below {W W' : World} {D : Nat} (h : W.heap[D]? = some (.deferred (some []))) (hb : Below W.heap.size W W') : W'.heap[D]? = some (.deferred (some [])) :=
  (hb.block D (Array.getElem?_eq_some_iff.1 h).1).trans h

end Go.Proofs.YtninkkdbcgadpaaGreatDoor
