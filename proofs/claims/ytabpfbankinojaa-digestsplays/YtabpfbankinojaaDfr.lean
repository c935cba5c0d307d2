/-
  From how an argument is read as data to what the walks are told of it: an act, a slice of acts.
-/
import Derived.Test.YtabpfbankinojaaDfrD
import Derived.Test.YtabpfbankinojaaDac
import Derived.Deep.Slices
namespace Go.Proofs.Ytabpfbankinojaa
set_option linter.unusedSimpArgs false
open Go.ChangeShapes Go.WideShapes Go.ChangeAt Go.RowKit
set_option linter.unusedVariables false

theorem act_digit {H : Type} {enc : TypeId × Value → H} {W : World} {fuel : Nat} {cs : List Value} {x : DataW H × List MemPlace}
    (hf : DataW.trod enc Try.prog W 0 (fun _ => true) true fuel 24 cs = some x) (hl : cs.length = 32) : ∃ xs : List Int, cs = u8s xs ∧ xs.length = 32 ∧ isB xs := by
  obtain ⟨ys, q, _, _, _, hyl, hy⟩ := DataW.trod_array aD.und hf
  rw [aD.cells] at hy
  have cell : ∀ j, j < 32 → ∃ z : Int, cs[j]? = some (.int .u8 z) ∧ 0 ≤ z ∧ z ≤ 255 := by
    intro j hj
    have e := hy j hj
    have hys : ys[j]? = some ys[j] := List.getElem?_eq_getElem (by omega)
    rw [hys, Nat.mul_one, List.drop_eq_getElem_cons (by omega)] at e
    simp only [List.take_succ_cons, List.take_zero] at e
    obtain ⟨z, hz, _, hwf⟩ := DataW.trod_int aD.elem e
    simp only [List.cons.injEq, and_true] at hz
    exact ⟨z, by rw [List.getElem?_eq_getElem (by omega), hz], bounds_u8 hwf⟩
  refine ⟨(List.range 32).map (fun i => intOf (cs[i]?.getD undef)), ?_, by simp, ?_⟩
  · refine List.ext_getElem? fun i => ?_
    by_cases hi : i < 32
    · obtain ⟨z, hz, _⟩ := cell i hi
      rw [hz]
      simp [u8s, hi, hz, intOf]
    · rw [List.getElem?_eq_none (by omega), List.getElem?_eq_none (by rw [u8s_length, List.length_map, List.length_range]; omega)]
  · intro y hy
    simp only [List.mem_map, List.mem_range] at hy
    obtain ⟨j, hj, rfl⟩ := hy
    obtain ⟨z, hz, hb⟩ := cell j hj
    rw [hz]
    exact hb
theorem caA : Try.prog.cellsOf 33 = 34 := by kernel_rfl
theorem bytesA : Try.prog.bytesOf 33 = 48 := by kernel_rfl
theorem cutA {L x : List Value} {k n : Nat} (h : (L.drop k).take n = x) : L.drop k = x ++ L.drop (k + n) := by
  rw [← h, ← List.drop_drop, List.take_append_drop]
set_option maxRecDepth 100000 in
set_option maxHeartbeats 1000000 in
theorem act_trod {H : Type} {enc : TypeId × Value → H} {W : World} {fuel : Nat} {L : List Value} {x : DataW H × List MemPlace} (hL : L.length = 34)
    (hf : DataW.trod enc Try.prog W 0 (fun _ => true) true fuel 33 L = some x) : ∃ z : Ac6, L = z.cells ∧ z.Good := by
  have hu := Try.underlying33
  have ci : Try.prog.cellsOf 3 = 1 := by kernel_rfl
  have cb : Try.prog.cellsOf 4 = 1 := by kernel_rfl
  have ui : Try.prog.underlying 3 = some (.int .i64) := by kernel_rfl
  have ub : Try.prog.underlying 4 = some .bool := by kernel_rfl
  obtain ⟨xs, n, _, hx, _, hxl, hfs⟩ := DataW.trod_struct hu hf
  match xs, hxl with
  | [y0, y1, y2], _ =>
    have h0 : DataW.trod enc Try.prog W 0 (fun _ => true) true n 24 ((L.drop 0).take (Try.prog.cellsOf 24)) = some y0 := hfs 0 _ rfl
    have h1 : DataW.trod enc Try.prog W 0 (fun _ => true) true n 3 ((L.drop 32).take (Try.prog.cellsOf 3)) = some y1 := hfs 1 _ rfl
    have h2 : DataW.trod enc Try.prog W 0 (fun _ => true) true n 4 ((L.drop 33).take (Try.prog.cellsOf 4)) = some y2 := hfs 2 _ rfl
    rw [cellsD] at h0
    rw [ci] at h1
    rw [cb] at h2
    obtain ⟨ds, e0, hdl, hdb⟩ := act_digit h0 (by rw [List.length_take, List.length_drop]; omega)
    obtain ⟨a1, e1, x1, w1⟩ := DataW.trod_int ui h1
    obtain ⟨b, e2, x2⟩ := DataW.trod_bool ub h2
    refine ⟨⟨ds, a1, b⟩, ?_, ⟨hdl, hdb, w1⟩⟩
    have d0 := cutA e0
    have d1 := cutA e1
    have d2 := cutA e2
    have dd : L.drop 34 = [] := List.drop_of_length_le (by omega)
    simp only [Nat.reduceAdd] at d0 d1 d2
    rw [← List.drop_zero (l := L), d0, d1, d2, dd]
    simp [Ac6.cells, acC]
set_option maxRecDepth 100000 in
theorem act_open {H : Type} {enc : TypeId × Value → H} {W : World} {base : Nat} {v : Value} {d : DataW H} {p : List MemPlace}
    (hv : Value.okWide Try.prog W .any base 33 v) (h : DataW.Trod enc Try.prog W 0 (fun _ => true) true 33 v d p) : ∃ z : Ac6, v = .agg z.cells.toArray ∧ z.Good := by
  obtain ⟨cs, rfl, hsz⟩ := okWide_struct Try.underlying33 hv
  rw [caA] at hsz
  obtain ⟨fuel, hf⟩ := h
  obtain ⟨l⟩ := cs
  obtain ⟨z, hz, hi⟩ := act_trod (L := l) (by simpa using hsz) hf
  exact ⟨z, by rw [hz], hi⟩
set_option maxRecDepth 100000 in
theorem acts_of {H : Type} {enc : TypeId × Value → H} {W : World} {base : Nat} {v : Value} {d : DataW H} {p : List MemPlace} {ts : List TypeId} {ds : List (DataW H)} (j : Nat)
    (hv : Value.okWide Try.prog W .any base 22 v) (h : DataW.Trod enc Try.prog W 0 (fun _ => true) true 22 v d p)
    (hsz : (DataW.weightsEach Try.prog ts ds).all (· ≤ reachBytes) = true) (ht : ts[j]? = some 22) (hd : ds[j]? = some d) :
    ∃ a len cap acts, v = .slice a len cap ∧ Ats W a len cap acts ∧ cap ≤ 2932031007317 := by
  have hs : Try.prog.underlying 22 = some (.slice 33) := by kernel_rfl
  obtain ⟨a, len, cap, rfl⟩ := okWide_slice hs hv
  obtain ⟨fuel, hf⟩ := h
  rcases Deep.open_slice hs hf with ⟨hcs, hx⟩ | ⟨x, l, c, m, n, D, Pl, hcs, _, hl, hm, hmm, hx, hel⟩
  · simp [Value.cells] at hcs
    obtain ⟨rfl, rfl, rfl⟩ := hcs
    exact ⟨none, 0, 0, fun _ => ⟨[], 0, false⟩, rfl, ⟨Nat.le_refl _, by omega, fun i hi => absurd hi (by omega), fun i hi => absurd hi (by omega)⟩, by omega⟩
  · simp [Value.cells] at hcs
    obtain ⟨rfl, rfl, rfl⟩ := hcs
    have hmc : m = cap := by simpa using hmm
    subst hmc
    have each : ∀ i, i < m → ∃ y : Ac6, y.Good ∧ ∀ j, j < 34 → W.cell? ((x.add (i * 34)).add j) = y.cells[j]? := by
      intro i hi2
      obtain ⟨cs', h1, h2⟩ := hel i hi2
      rw [caA] at h1
      obtain ⟨_, hlen, hcell⟩ := World.cells?_some h1
      obtain ⟨z, hz, hg⟩ := act_trod hlen h2
      refine ⟨z, hg, fun j hj => ?_⟩
      have := hcell j hj
      rw [hz] at this
      exact this
    have hinh : Inhabited Ac6 := ⟨⟨[], 0, false⟩⟩
    obtain ⟨y, hy⟩ := Deep.choose_lt each
    have hc : m ≤ 2932031007317 := by
      simp only [Prod.mk.injEq] at hx
      have := sized_slice hsz ht (by rw [hd, hx.1]) hs
      rw [bytesA] at this
      simp only [reachBytes, List.length_take, List.length_drop, List.length_map, List.length_range] at this
      omega
    refine ⟨some x, len, m, y, rfl, ⟨hl, by unfold maxLen at hm; omega, fun i hi => (hy i (by omega)).1, fun i hi => ?_⟩, hc⟩
    obtain ⟨b, off, spot⟩ := x
    have hsp : spot = none := by
      have e := (hy 0 (by omega)).2 0 (by omega)
      rw [show (y 0).cells[0]? = some (.int .u8 ((y 0).d.getD 0 0)) from acC_0 _ _ _ (hy 0 (by omega)).1.dl] at e
      simpa [Addr.add] using World.cell?_spot e
    subst hsp
    refine ⟨b, off, rfl, fun j v hj => ?_⟩
    have hjl : j < 34 := by
      have := (List.getElem?_eq_some_iff.1 hj).1
      rw [show (y i).cells.length = 34 from acC_len _ _ _ (hy i (by omega)).1.dl] at this
      exact this
    have e := (hy i (by omega)).2 j hjl
    rw [Addr.add_lit, Addr.add_lit] at e
    rw [← hj, ← e]

end Go.Proofs.Ytabpfbankinojaa
