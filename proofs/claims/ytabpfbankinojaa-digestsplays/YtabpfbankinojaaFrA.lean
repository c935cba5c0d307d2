/-
  From how an argument is read as data to what the walks are told of it: a slice of bytes, an array of numbers.
-/
import Derived.Test.YtabpfbankinojaaRows
import Derived.Test.YtabpfbankinojaaMc
import Derived.WalkKit
import Derived.ProofKit
import Derived.OpenShut
import Derived.ShutString
import Derived.ChangeOld
import Derived.Below
import Derived.SizedLaws
namespace Go.Proofs.Ytabpfbankinojaa
open Go.ChangeShapes Go.WideShapes Go.ChangeAt Go.RowKit
open Go.ChangeMaps (open_string shut_string)
set_option linter.unusedVariables false

theorem own : ownKnob Try.prog.godebug = none := by kernel_rfl
theorem laidOut : laidOutB Try.prog = true := by kernel_rfl

set_option maxRecDepth 100000 in
/-- An array of numbers that came in. -/
theorem arr_open {T E : TypeId} {k : IntKind} {n : Nat} (hA : Arr T E k n) (hc : Try.prog.cellsOf T = n) {H : Type} {enc : TypeId × Value → H} {W : World} {base : Nat} {v : Value} {d : DataW H} {p : List MemPlace}
    (hv : Value.okWide Try.prog W .any base T v) (h : DataW.Trod enc Try.prog W 0 (fun _ => true) true T v d p) :
    ∃ xs : List Int, v = .agg (xs.map (Value.int k)).toArray ∧ xs.length = n ∧ ∀ x ∈ xs, (Lit.int k x).wf = true := by
  have hv2 : ∃ cs, v = .agg cs ∧ cs.size = Try.prog.cellsOf T ∧ Row.okWide Try.prog W .any base T cs := by
    unfold Value.okWide at hv
    rw [hA.und] at hv
    exact hv
  obtain ⟨cs, rfl, hsz, _⟩ := hv2
  rw [hc] at hsz
  obtain ⟨fuel, hf⟩ := h
  obtain ⟨ys, m, _, _, _, hyl, hy⟩ := DataW.trod_array hA.und hf
  rw [hA.cells] at hy
  have key : ∀ i, i < n → ∃ z : Int, cs[i]? = some (.int k z) ∧ (Lit.int k z).wf = true := by
    intro i hi
    have hi2 : i < cs.size := by omega
    have e := hy i hi
    have hys : ys[i]? = some ys[i] := List.getElem?_eq_getElem (by omega)
    rw [hys, Nat.mul_one] at e
    have ec : ((Value.agg cs).cells.toList.drop i).take 1 = [cs[i]] := by
      simp only [Value.cells]
      rw [List.drop_eq_getElem_cons (by simpa using hi2)]
      simp
    rw [ec] at e
    obtain ⟨z, hz, _, hwf⟩ := DataW.trod_int hA.elem e
    simp only [List.cons.injEq, and_true] at hz
    exact ⟨z, by rw [Array.getElem?_eq_getElem hi2, hz], hwf⟩
  refine ⟨(List.range n).map (fun i => intOf (cs[i]?.getD undef)), ?_, by simp, ?_⟩
  · congr 1
    apply Array.ext_getElem?
    intro i
    by_cases hi : i < n
    · obtain ⟨z, hz, _⟩ := key i hi
      simp [hi, hz, intOf]
    · rw [Array.getElem?_eq_none (by omega)]
      simp [hi]
  · intro x hx
    simp only [List.mem_map, List.mem_range] at hx
    obtain ⟨i, hi, rfl⟩ := hx
    obtain ⟨z, hz, hb⟩ := key i hi
    simp [hz, hb, intOf]

end Go.Proofs.Ytabpfbankinojaa
