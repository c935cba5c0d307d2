/-
  From how an argument is read as data to what the walks are told of it: a struct of four numbers.
-/
import Derived.Test.YtlgcjdgcgnlcaaaGreatDoorFrA
import Derived.Lib.SmallJoins
namespace Go.Proofs.YtlgcjdgcgnlcaaaGreatDoor
open Go.ChangeShapes Go.WideShapes Go.ChangeAt Go.RowKit
set_option linter.unusedVariables false

set_option maxRecDepth 100000 in
/-- A struct of four numbers that came in. -/
theorem four_open {T : TypeId} {f0 f1 f2 f3 : Field} (hu : Tryz.prog.underlying T = some (.struct #[f0, f1, f2, f3])) (hc : Tryz.prog.cellsOf T = 4) (o0 : f0.offset = 0) (o1 : f1.offset = 1) (o2 : f2.offset = 2) (o3 : f3.offset = 3) (t0 : f0.type = 3) (t1 : f1.type = 3) (t2 : f2.type = 3) (t3 : f3.type = 3)
    {H : Type} {enc : TypeId × Value → H} {W : World} {base : Nat} {v : Value} {d : DataW H} {p : List MemPlace}
    (hv : Value.okWide Tryz.prog W .any base T v) (h : DataW.Trod enc Tryz.prog W 0 (fun _ => true) true T v d p) :
    ∃ a b c e : Int, v = .agg #[.int .i64 a, .int .i64 b, .int .i64 c, .int .i64 e] ∧ (Lit.int .i64 a).wf = true ∧ (Lit.int .i64 b).wf = true ∧ (Lit.int .i64 c).wf = true ∧ (Lit.int .i64 e).wf = true := by
  obtain ⟨cs, rfl, hsz⟩ := okWide_struct hu hv
  rw [hc] at hsz
  obtain ⟨fuel, hf⟩ := h
  obtain ⟨y0, y1, y2, y3, q, _, _, h0, h1, h2, h3⟩ := Joins.trod_struct4 hu hf
  have c1 : Tryz.prog.cellsOf 3 = 1 := by kernel_rfl
  have hi : Tryz.prog.underlying 3 = some (.int .i64) := by kernel_rfl
  rw [o0, t0, c1] at h0
  rw [o1, t1, c1] at h1
  rw [o2, t2, c1] at h2
  rw [o3, t3, c1] at h3
  obtain ⟨n, e0, _, w0⟩ := DataW.trod_int hi h0
  obtain ⟨m, e1, _, w1⟩ := DataW.trod_int hi h1
  obtain ⟨k, e2, _, w2⟩ := DataW.trod_int hi h2
  obtain ⟨j, e3, _, w3⟩ := DataW.trod_int hi h3
  refine ⟨n, m, k, j, ?_, w0, w1, w2, w3⟩
  obtain ⟨l⟩ := cs
  simp only [Value.cells] at e0 e1 e2 e3
  match l, hsz with
  | [x, y, z, u], _ =>
    simp at e0 e1 e2 e3
    rw [e0, e1, e2, e3]

end Go.Proofs.YtlgcjdgcgnlcaaaGreatDoor
