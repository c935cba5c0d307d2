/-
  Structs that are built out of parts of many cells.
-/
import Derived.Test.YtabpfbankinojaaMc
import Derived.Laws.Tables
namespace Go.Proofs.Ytabpfbankinojaa
open Go.RowKit
set_option linter.unusedVariables false

theorem fold_spl (off : Nat) : ∀ (vs : List Value) (k : Nat) (cs : List Value), off + k + vs.length ≤ cs.length →
    (vs.zipIdx k).foldl (fun (a : Array Value) (x : Value × Nat) => a.setIfInBounds (off + x.2) x.1) cs.toArray = (spl cs vs (off + k)).toArray
  | [], k, cs, _ => by simp [spl]
  | v :: r, k, cs, h => by
    rw [List.length_cons] at h
    rw [List.zipIdx_cons, List.foldl_cons]
    have e : cs.toArray.setIfInBounds (off + k) v = (cs.set (off + k) v).toArray := by simp
    show List.foldl _ (cs.toArray.setIfInBounds (off + k) v) (r.zipIdx (k + 1)) = _
    rw [e, fold_spl off r (k + 1) _ (by rw [List.length_set]; omega), ← Nat.add_assoc off k 1, spl_cons cs v r (off + k) (by omega)]

theorem fill_cons {place : Nat → Option (Nat × Nat)} {i off size : Nat} {cs vs : List Value} {v : Value} {rest : List (Nat × Value)} (hp : place i = some (off, size)) (hv : v.cells = vs.toArray) (hs : vs.length = size) (hb : off + size ≤ cs.length) :
    Instr.fill place cs.toArray ((i, v) :: rest) = Instr.fill place (spl cs vs off).toArray rest := by
  subst hs
  have hc : ¬ ((v.cells.size ≠ vs.length || off + v.cells.size > cs.toArray.size) = true) := by
    rw [hv]
    simp
    omega
  rw [Instr.fill, hp]
  show (if (v.cells.size ≠ vs.length || off + v.cells.size > cs.toArray.size) = true then none else _) = _
  rw [if_neg hc, hv]
  congr 1
  rw [← Array.foldl_toList]
  have := fold_spl off vs 0 cs (by omega)
  rw [Nat.add_zero] at this
  simpa using this
theorem fill_nil {place : Nat → Option (Nat × Nat)} {cs : Array Value} : Instr.fill place cs [] = some cs := rfl

/-- What is known of a struct's type: its zero cells, and where its parts lie. -/
def Rec (T : TypeId) (zs : List Value) (pl : List (Nat × Nat)) : Prop := ∀ parts, Try.prog.built T parts = Instr.fill (fun i => pl.toArray[i]?) zs.toArray parts

end Go.Proofs.Ytabpfbankinojaa
