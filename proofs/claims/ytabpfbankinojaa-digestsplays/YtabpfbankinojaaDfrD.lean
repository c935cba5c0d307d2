/-
  From how an argument is read as data to what the walks are told of it: a slice of digests, a span.
-/
import Derived.Test.YtabpfbankinojaaDgd
import Derived.Test.YtabpfbankinojaaFr
import Derived.Deep.Slices
namespace Go.Proofs.Ytabpfbankinojaa
open Go.ChangeShapes Go.WideShapes Go.ChangeAt Go.RowKit
set_option linter.unusedVariables false

theorem aD : Arr 24 5 .u8 32 := ⟨by kernel_rfl, by kernel_rfl, by kernel_rfl, by kernel_rfl, by kernel_rfl, by kernel_rfl⟩
theorem bytesD : Try.prog.bytesOf 24 = 32 := by kernel_rfl
theorem cellsD : Try.prog.cellsOf 24 = 32 := by kernel_rfl

set_option maxRecDepth 100000 in
theorem ds_open {H : Type} {enc : TypeId × Value → H} {W : World} {base : Nat} {v : Value} {d : DataW H} {p : List MemPlace}
    (hv : Value.okWide Try.prog W .any base 52 v) (h : DataW.Trod enc Try.prog W 0 (fun _ => true) true 52 v d p) :
    ∃ a len cap xs, v = .slice a len cap ∧ (cap ≤ 4398046511104 → Ds W a len cap xs) ∧ ((d = .nil ∧ cap = 0) ∨ ∃ es rs, d = .slice es rs ∧ es.length + rs.length = cap) := by
  obtain ⟨a, len, cap, rfl⟩ := okWide_slice undDl hv
  refine ⟨a, len, cap, ?_⟩
  obtain ⟨fuel, hf⟩ := h
  rcases Deep.open_slice undDl hf with ⟨hcs, hx⟩ | ⟨x, l, c, m, n, D, Pl, hcs, _, hl, hm, hmm, hx, hel⟩
  · simp [Value.cells] at hcs
    obtain ⟨rfl, rfl, rfl⟩ := hcs
    simp only [Prod.mk.injEq] at hx
    exact ⟨[], rfl, fun _ => ⟨Nat.le_refl _, by omega, fun _ => rfl, Sl.none0 _⟩, .inl ⟨hx.1, rfl⟩⟩
  · simp [Value.cells] at hcs
    obtain ⟨rfl, rfl, rfl⟩ := hcs
    simp only [Prod.mk.injEq] at hx
    have hmc : m = cap := by simpa using hmm
    subst hmc
    have cell : ∀ j, j < 32 * m → ∃ z : Int, W.cell? (x.add j) = some (.int .u8 z) ∧ 0 ≤ z ∧ z ≤ 255 := by
      intro j hj
      obtain ⟨cs', h1, h2⟩ := hel (j / 32) (by omega)
      rw [cellsD] at h1
      obtain ⟨_, hlen, hcell⟩ := World.cells?_some h1
      obtain ⟨ys, q, _, _, _, hyl, hy⟩ := DataW.trod_array aD.und h2
      rw [aD.cells] at hy
      have e := hy (j % 32) (by omega)
      have hys : ys[j % 32]? = some ys[j % 32] := List.getElem?_eq_getElem (by omega)
      rw [hys, Nat.mul_one, List.drop_eq_getElem_cons (by omega)] at e
      simp only [List.take_succ_cons, List.take_zero] at e
      obtain ⟨z, hz, _, hwf⟩ := DataW.trod_int aD.elem e
      simp only [List.cons.injEq, and_true] at hz
      refine ⟨z, ?_, bounds_u8 hwf⟩
      have hc := hcell (j % 32) (by omega)
      rw [List.getElem?_eq_getElem (by omega), hz] at hc
      have ea : (x.add (j / 32 * 32)).add (j % 32) = x.add j := by
        rw [Deep.add_add, Nat.div_add_mod']
      rwa [ea] at hc
    refine ⟨(List.range (32 * len)).map (fun j => intOf ((W.cell? (x.add j)).getD undef)), rfl, fun hc => ⟨hl, by omega, (fun e => by cases e), by simp, Nat.le_refl _, by omega, by omega, ?_, (fun e => by cases e), fun h0 => ?_⟩, .inr ⟨_, _, hx.1, by simp; omega⟩⟩
    · intro y hy
      simp only [List.mem_map, List.mem_range] at hy
      obtain ⟨j, hj, rfl⟩ := hy
      obtain ⟨z, hz, hb⟩ := cell j (by omega)
      simp only [hz, Option.getD_some, intOf]
      exact hb
    · obtain ⟨b, off, spot⟩ := x
      have hs : spot = none := by
        obtain ⟨z, hz, _⟩ := cell 0 (by omega)
        simpa [Addr.add] using World.cell?_spot hz
      subst hs
      refine ⟨b, off, rfl, fun i hi => ?_⟩
      obtain ⟨z, hz, _⟩ := cell i (by omega)
      rw [Addr.add_lit] at hz
      rw [hz]
      simp [List.getD, hi, Addr.add_lit, hz, intOf]

set_option maxRecDepth 100000 in
theorem ds_of {H : Type} {enc : TypeId × Value → H} {W : World} {base : Nat} {v : Value} {d : DataW H} {p : List MemPlace} {ts : List TypeId} {ds : List (DataW H)} (j : Nat)
    (hv : Value.okWide Try.prog W .any base 52 v) (h : DataW.Trod enc Try.prog W 0 (fun _ => true) true 52 v d p)
    (hsz : (DataW.weightsEach Try.prog ts ds).all (· ≤ reachBytes) = true) (ht : ts[j]? = some 52) (hd : ds[j]? = some d) :
    ∃ a len cap xs, v = .slice a len cap ∧ Ds W a len cap xs ∧ cap ≤ 4398046510976 := by
  obtain ⟨a, len, cap, xs, rfl, hs, hd2⟩ := ds_open hv h
  have hc : cap ≤ 4398046510976 := by
    rcases hd2 with ⟨_, rfl⟩ | ⟨es, rs, rfl, hl⟩
    · omega
    · have := sized_slice hsz ht hd undDl
      rw [bytesD, hl] at this
      simp only [reachBytes] at this
      omega
  exact ⟨a, len, cap, xs, rfl, hs (by omega), hc⟩

set_option maxRecDepth 100000 in
/-- A struct of two numbers that came in. -/
theorem two_open {T : TypeId} {f0 f1 : Field} (hu : Try.prog.underlying T = some (.struct #[f0, f1])) (hc : Try.prog.cellsOf T = 2) (o0 : f0.offset = 0) (o1 : f1.offset = 1) (t0 : f0.type = 3) (t1 : f1.type = 3)
    {H : Type} {enc : TypeId × Value → H} {W : World} {base : Nat} {v : Value} {d : DataW H} {p : List MemPlace}
    (hv : Value.okWide Try.prog W .any base T v) (h : DataW.Trod enc Try.prog W 0 (fun _ => true) true T v d p) :
    ∃ n m : Int, v = .agg #[.int .i64 n, .int .i64 m] ∧ (Lit.int .i64 n).wf = true ∧ (Lit.int .i64 m).wf = true := by
  obtain ⟨cs, rfl, hsz⟩ := okWide_struct hu hv
  rw [hc] at hsz
  obtain ⟨fuel, hf⟩ := h
  obtain ⟨y0, y1, q, _, _, h0, h1⟩ := trod_struct2 hu hf
  have c1 : Try.prog.cellsOf 3 = 1 := by kernel_rfl
  have hi : Try.prog.underlying 3 = some (.int .i64) := by kernel_rfl
  rw [o0, t0, c1] at h0
  rw [o1, t1, c1] at h1
  obtain ⟨n, e0, _, w0⟩ := DataW.trod_int hi h0
  obtain ⟨m, e1, _, w1⟩ := DataW.trod_int hi h1
  refine ⟨n, m, ?_, w0, w1⟩
  obtain ⟨l⟩ := cs
  simp only [Value.cells] at e0 e1
  match l, hsz with
  | [x, y], _ =>
    simp at e0 e1
    rw [e0, e1]


end Go.Proofs.Ytabpfbankinojaa
