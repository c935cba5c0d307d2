/-
  From how an argument is read as data to what the walks are told of it: a slice of nodes, in the narrowed form.
-/
import Derived.Test.YtnlpgkfmjlljdaaFrA
import Derived.Test.YtnlpgkfmjlljdaaTmn
import Derived.Deep.SlicePairs
import Derived.Deep.Matrix
namespace Go.Proofs.Ytnlpgkfmjlljdaa
open Go.ChangeShapes Go.WideShapes Go.ChangeAt Go.RowKit
set_option linter.unusedVariables false

theorem bulk_len {H : Type} : ∀ l : List (DataW H), (∀ d ∈ l, 1 ≤ Rows.uptoBulk d) → l.length ≤ Rows.uptoBulkAll l
  | [], _ => by simp [Rows.uptoBulkAll]
  | d :: l, h => by
    have h1 := h d (by simp)
    have h2 := bulk_len l (fun y hy => h y (by simp [hy]))
    simp only [List.length_cons, Rows.uptoBulkAll]
    omega
set_option maxRecDepth 100000 in
theorem nds_upto {f0 f1 : Field} (hu : Try.prog.underlying 23 = some (.struct #[f0, f1])) (o0 : f0.offset = 0) (o1 : f1.offset = 1) (t0 : f0.type = 3) (t1 : f1.type = 3)
    {H : Type} {enc : TypeId × Value → H} {W : World} {base : Nat} {v : Value} {d : DataW H} {p : List MemPlace}
    (hv : Value.okWide Try.prog W .any base 46 v) (h : DataW.Trod enc Try.prog W 0 (fun _ => true) true 46 v d p) (hm : Rows.uptoBulk d ≤ 1048576) :
    ∃ (a : Option Addr) (len cap : Nat) (ns : List (Int × Int)), v = .slice a len cap ∧ Nds W a len cap ns ∧ len ≤ 1048576 := by
  have hs : Try.prog.underlying 46 = some (.slice 23) := by kernel_rfl
  have hi : Try.prog.underlying 3 = some (.int .i64) := by kernel_rfl
  have c0 : Try.prog.cellsOf f0.type = 1 := by rw [t0]; kernel_rfl
  have c1 : Try.prog.cellsOf f1.type = 1 := by rw [t1]; kernel_rfl
  obtain ⟨a, len, cap, rfl⟩ := okWide_slice hs hv
  obtain ⟨fuel, hf⟩ := h
  rcases Deep.open_slice_pairs hs hu (by kernel_rfl) o0 o1 c0 c1 hf with ⟨hcs, hx⟩ | ⟨x, l, c, q, nn, V0, V1, D0, D1, P0, P1, hcs, _, hl, hmx, hq, hx, hcell⟩
  · simp [Value.cells] at hcs
    obtain ⟨rfl, rfl, rfl⟩ := hcs
    exact ⟨none, 0, 0, [], rfl, ⟨rfl, Nat.le_refl _, by omega, fun i x hx => by simp at hx⟩, by omega⟩
  · simp [Value.cells] at hcs
    obtain ⟨rfl, rfl, rfl⟩ := hcs
    simp only [if_true] at hq
    have hq2 := hq.symm
    subst hq2
    simp only [Prod.mk.injEq] at hx
    rw [hx.1] at hm
    simp only [Rows.uptoBulk] at hm
    have hlen := bulk_len (H := H) ((List.range len).map fun i => .agg [D0 i, D1 i]) (fun d hd => by
      obtain ⟨i, _, rfl⟩ := List.mem_map.1 hd
      simp only [Rows.uptoBulk]
      omega)
    rw [List.length_map, List.length_range] at hlen
    have each : ∀ i, i < cap → ∃ y : Int × Int, V0 i = .int .i64 y.1 ∧ V1 i = .int .i64 y.2 := by
      intro i hi2
      obtain ⟨_, _, h0, h1⟩ := hcell i hi2
      rw [t0] at h0
      rw [t1] at h1
      obtain ⟨k, ek, _, _⟩ := DataW.trod_int hi h0
      obtain ⟨k2, ek2, _, _⟩ := DataW.trod_int hi h1
      exact ⟨(k, k2), by simpa using ek, by simpa using ek2⟩
    obtain ⟨y, hy⟩ := Deep.choose_lt each
    refine ⟨some x, len, cap, (List.range len).map y, rfl, ⟨by simp, hl, by unfold maxLen at hmx; omega, fun i z hz => ?_⟩, by omega⟩
    rw [List.getElem?_map] at hz
    obtain ⟨i', hi', e⟩ := Option.map_eq_some_iff.1 hz
    have hil : i < len := by
      have := (List.getElem?_eq_some_iff.1 hi').1
      simpa using this
    rw [List.getElem?_range hil] at hi'
    cases hi'
    subst e
    obtain ⟨e0, e1, _, _⟩ := hcell i (by omega)
    obtain ⟨f0', f1'⟩ := hy i (by omega)
    obtain ⟨b, off, spot⟩ := x
    have hsp : spot = none := by
      have := (hcell 0 (by omega)).1
      simpa [Addr.add] using World.cell?_spot this
    subst hsp
    rw [Addr.add_lit] at e0
    rw [Addr.add_lit, show off + (i * 2 + 1) = off + i * 2 + 1 by omega] at e1
    exact ⟨b, off, rfl, by rw [e0, f0'], by rw [e1, f1']⟩

end Go.Proofs.Ytnlpgkfmjlljdaa
