/-
  From how an argument is read as data to what the walks are told of it: a struct of two numbers.
-/
import Derived.Test.YtnlpgkfmjlljdaaFrA
namespace Go.Proofs.Ytnlpgkfmjlljdaa
open Go.ChangeShapes Go.WideShapes Go.ChangeAt Go.RowKit
set_option linter.unusedVariables false

set_option maxRecDepth 100000 in
/-- A struct of two numbers that came in. -/
theorem two_open {T : TypeId} {f0 f1 : Field} (hu : Try.prog.underlying T = some (.struct #[f0, f1])) (hc : Try.prog.cellsOf T = 2) (o0 : f0.offset = 0) (o1 : f1.offset = 1) (t0 : f0.type = 3) (t1 : f1.type = 3)
    {H : Type} {enc : TypeId × Value → H} {W : World} {base : Nat} {v : Value} {d : DataW H} {p : List MemPlace}
    (hv : Value.okWide Try.prog W .any base T v) (h : DataW.Trod enc Try.prog W 0 (fun _ => true) true T v d p) :
    ∃ n m : Int, v = .agg #[.int .i64 n, .int .i64 m] ∧ (Lit.int .i64 n).wf = true ∧ (Lit.int .i64 m).wf = true := by
  obtain ⟨cs, rfl, hsz⟩ := okWide_struct hu hv
  rw [hc] at hsz
  obtain ⟨fuel, hf⟩ := h
  obtain ⟨y0, y1, q, _, _, h0, h1⟩ := trod_struct2 hu hf
  have c1 : Try.prog.cellsOf 3 = 1 := by kernel_rfl
  have hi : Try.prog.underlying 3 = some (.int .i64) := by kernel_rfl
  rw [o0, t0, c1] at h0
  rw [o1, t1, c1] at h1
  obtain ⟨n, e0, _, w0⟩ := DataW.trod_int hi h0
  obtain ⟨m, e1, _, w1⟩ := DataW.trod_int hi h1
  refine ⟨n, m, ?_, w0, w1⟩
  obtain ⟨l⟩ := cs
  simp only [Value.cells] at e0 e1
  match l, hsz with
  | [x, y], _ =>
    simp at e0 e1
    rw [e0, e1]

end Go.Proofs.Ytnlpgkfmjlljdaa
