/-
  From how an argument is read as data to what the walks are told of it: a struct of two numbers and a slice of digests.
-/
import Derived.Test.YtojepbapdjkknaaDoorFrD
import Derived.Deep.Strs
namespace Go.Proofs.YtojepbapdjkknaaDoor
open Go.ChangeShapes Go.WideShapes Go.ChangeAt Go.RowKit
set_option linter.unusedVariables false

set_option maxRecDepth 100000 in
theorem ds_trod {H : Type} {enc : TypeId × Value → H} {W : World} {fuel : Nat} {cs : List Value} {x : DataW H × List MemPlace}
    (hf : DataW.trod enc Tryd.prog W 0 (fun _ => true) true fuel 22 cs = some x) :
    ∃ a len cap xs, cs = [.slice a len cap] ∧ (cap ≤ 4398046511104 → Ds W a len cap xs) ∧ ((x.1 = .nil ∧ cap = 0) ∨ ∃ es rs, x.1 = .slice es rs ∧ es.length + rs.length = cap) := by
  rcases Deep.open_slice undDl hf with ⟨hcs, hx⟩ | ⟨x', len, cap, m, n, D, Pl, hcs, _, hl, hm, hmm, hx, hel⟩
  · refine ⟨none, 0, 0, [], hcs, fun _ => ⟨Nat.le_refl _, by omega, fun _ => rfl, Sl.none0 _⟩, .inl ⟨?_, rfl⟩⟩
    rw [hx]
  · have hmc : m = cap := by simpa using hmm
    subst hmc
    have cell : ∀ j, j < 32 * m → ∃ z : Int, W.cell? (x'.add j) = some (.int .u8 z) ∧ 0 ≤ z ∧ z ≤ 255 := by
      intro j hj
      obtain ⟨cs', h1, h2⟩ := hel (j / 32) (by omega)
      rw [cellsD] at h1
      obtain ⟨_, hlen, hcell⟩ := World.cells?_some h1
      obtain ⟨ys, q, _, _, _, hyl, hy⟩ := DataW.trod_array aD.und h2
      rw [aD.cells] at hy
      have e := hy (j % 32) (by omega)
      have hys : ys[j % 32]? = some ys[j % 32] := List.getElem?_eq_getElem (by omega)
      rw [hys, Nat.mul_one, List.drop_eq_getElem_cons (by omega)] at e
      simp only [List.take_succ_cons, List.take_zero] at e
      obtain ⟨z, hz, _, hwf⟩ := DataW.trod_int aD.elem e
      simp only [List.cons.injEq, and_true] at hz
      refine ⟨z, ?_, bounds_u8 hwf⟩
      have hc := hcell (j % 32) (by omega)
      rw [List.getElem?_eq_getElem (by omega), hz] at hc
      have ea : (x'.add (j / 32 * 32)).add (j % 32) = x'.add j := by
        rw [Deep.add_add, Nat.div_add_mod']
      rwa [ea] at hc
    refine ⟨some x', len, m, (List.range (32 * len)).map (fun j => intOf ((W.cell? (x'.add j)).getD undef)), hcs, fun hc => ⟨hl, by omega, (fun e => by cases e), by simp, Nat.le_refl _, by omega, by omega, ?_, (fun e => by cases e), fun h0 => ?_⟩, .inr ⟨_, _, by rw [hx], by simp; omega⟩⟩
    · intro y hy
      simp only [List.mem_map, List.mem_range] at hy
      obtain ⟨j, hj, rfl⟩ := hy
      obtain ⟨z, hz, hb⟩ := cell j (by omega)
      simp only [hz, Option.getD_some, intOf]
      exact hb
    · obtain ⟨b, off, spot⟩ := x'
      have hs : spot = none := by
        obtain ⟨z, hz, _⟩ := cell 0 (by omega)
        simpa [Addr.add] using World.cell?_spot hz
      subst hs
      refine ⟨b, off, rfl, fun i hi => ?_⟩
      obtain ⟨z, hz, _⟩ := cell i (by omega)
      rw [Addr.add_lit] at hz
      rw [hz]
      simp [List.getD, hi, Addr.add_lit, hz, intOf]

set_option maxRecDepth 100000 in
theorem ask_of {T : TypeId} {f0 f1 f2 : Field} (hu : Tryd.prog.underlying T = some (.struct #[f0, f1, f2])) (hc : Tryd.prog.cellsOf T = 3) (o0 : f0.offset = 0) (o1 : f1.offset = 1) (o2 : f2.offset = 2) (t0 : f0.type = 3) (t1 : f1.type = 3) (t2 : f2.type = 22)
    {H : Type} {enc : TypeId × Value → H} {W : World} {base : Nat} {v : Value} {d : DataW H} {p : List MemPlace} {ts : List TypeId} {ds : List (DataW H)} (j : Nat)
    (hv : Value.okWide Tryd.prog W .any base T v) (h : DataW.Trod enc Tryd.prog W 0 (fun _ => true) true T v d p)
    (hsz : (DataW.weightsEach Tryd.prog ts ds).all (· ≤ reachBytes) = true) (ht : ts[j]? = some T) (hd : ds[j]? = some d) :
    ∃ (i n : Int) (a : Option Addr) (len cap : Nat) (xs : List Int), v = .agg #[.int .i64 i, .int .i64 n, .slice a len cap] ∧ Ds W a len cap xs ∧ cap ≤ 4398046510976 := by
  obtain ⟨cs, rfl, hsz2⟩ := okWide_struct hu hv
  rw [hc] at hsz2
  obtain ⟨fuel, hf⟩ := h
  obtain ⟨y0, y1, y2, q, hx, _, h0, h1, h2⟩ := Deep.trod_struct3 hu hf
  have c1 : Tryd.prog.cellsOf 3 = 1 := by kernel_rfl
  have c2 : Tryd.prog.cellsOf 22 = 1 := by kernel_rfl
  have hi : Tryd.prog.underlying 3 = some (.int .i64) := by kernel_rfl
  rw [o0, t0, c1] at h0
  rw [o1, t1, c1] at h1
  rw [o2, t2, c2] at h2
  obtain ⟨n, e0, _, w0⟩ := DataW.trod_int hi h0
  obtain ⟨m, e1, _, w1⟩ := DataW.trod_int hi h1
  obtain ⟨a, len, cap, xs, e2, hds, hd2⟩ := ds_trod h2
  have hcap : cap ≤ 4398046510976 := by
    rcases hd2 with ⟨_, rfl⟩ | ⟨es, rs, e3, hl⟩
    · omega
    · simp only [Prod.mk.injEq] at hx
      have hm : (es.length + rs.length) * Tryd.prog.bytesOf 45 ∈ d.weights Tryd.prog T := by
        rw [hx.1]
        simp only [DataW.weights, hu]
        refine DataW.weights_mem_each (j := 2) (t := 22) (d := y2.1) (by simp [t2]) (by simp) _ ?_
        rw [e3]
        simp [DataW.weights]
      have := List.all_eq_true.1 hsz _ (DataW.weights_mem_each ht hd _ hm)
      simp only [decide_eq_true_eq] at this
      rw [bytesD, hl] at this
      simp only [reachBytes] at this
      omega
  refine ⟨n, m, a, len, cap, xs, ?_, hds (by omega), hcap⟩
  obtain ⟨l⟩ := cs
  simp only [Value.cells] at e0 e1 e2
  match l, hsz2 with
  | [x, y, z], _ =>
    simp at e0 e1 e2
    rw [e0, e1, e2]

end Go.Proofs.YtojepbapdjkknaaDoor
