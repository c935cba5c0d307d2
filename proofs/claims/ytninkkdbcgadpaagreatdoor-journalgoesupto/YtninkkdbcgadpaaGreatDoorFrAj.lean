/-
  From how an argument is read as data to what the walks are told of it: an act, a slice of acts.
-/
import Derived.Test.YtninkkdbcgadpaaGreatDoorFr
import Derived.Test.YtninkkdbcgadpaaGreatDoorJaj
import Derived.Deep.Strs
namespace Go.Proofs.YtninkkdbcgadpaaGreatDoor
open Go.ChangeShapes Go.WideShapes Go.ChangeAt Go.RowKit
set_option linter.unusedVariables false

theorem ciA : Tryz.prog.cellsOf 3 = 1 := by kernel_rfl
theorem cbA : Tryz.prog.cellsOf 39 = 1 := by kernel_rfl
theorem caA : Tryz.prog.cellsOf 41 = 3 := by kernel_rfl
theorem cboA : Tryz.prog.cellsOf 4 = 1 := by kernel_rfl
theorem uboA : Tryz.prog.underlying 4 = some .bool := by kernel_rfl
theorem uiA : Tryz.prog.underlying 3 = some (.int .i64) := by kernel_rfl
theorem cutA {L x : List Value} {k n : Nat} (h : (L.drop k).take n = x) : L.drop k = x ++ L.drop (k + n) := by
  rw [← h, ← List.drop_drop, List.take_append_drop]

set_option maxRecDepth 100000 in
theorem slA_trod {H : Type} {enc : TypeId × Value → H} {W : World} {fuel : Nat} {cs : List Value} {x : DataW H × List MemPlace}
    (hf : DataW.trod enc Tryz.prog W 0 (fun _ => true) true fuel 39 cs = some x) :
    ∃ a len cap xs, cs = [.slice a len cap] ∧ xs.length = len ∧ (Rows.uptoBulk x.1 ≤ 1048576 → Sl W a len cap xs ∧ len + 1 ≤ Rows.uptoBulk x.1) := by
  rcases open_ints undBs undB (by kernel_rfl) hf with ⟨hcs, hx⟩ | ⟨x', l, c, zs, hcs, _, hl, hm, hz, hx, hcell, hwz⟩
  · refine ⟨none, 0, 0, [], hcs, rfl, fun _ => ⟨⟨rfl, Nat.le_refl _, by omega, by omega, (fun x hx => by simp at hx), fun _ => ⟨rfl, rfl⟩, fun h => absurd h (Nat.lt_irrefl 0)⟩, ?_⟩⟩
    rw [hx]
    simp [Rows.uptoBulk]
  · simp only [if_true] at hz
    have hb : Rows.uptoBulk x.1 = c + 1 := by
      rw [hx]
      simp only [Rows.uptoBulk, bulk_ints, List.length_take, List.length_drop]
      omega
    refine ⟨some x', l, c, zs.take l, hcs, by simp; omega, fun hb2 => ⟨⟨by simp; omega, hl, by omega, by omega, fun y hy => bounds_u8 (hwz y (List.mem_of_mem_take hy)), (fun e => by cases e), fun h0 => ?_⟩, by omega⟩⟩
    obtain ⟨b, off, spot⟩ := x'
    have hs : spot = none := by simpa [Addr.add] using World.cell?_spot (hcell 0 (by omega))
    subst hs
    refine ⟨b, off, rfl, fun i hi => ?_⟩
    have e := hcell i (by omega)
    rw [Addr.add_lit] at e
    rw [e]
    simp [List.getD, hi]

set_option maxRecDepth 100000 in
set_option maxHeartbeats 1000000 in
theorem aj_trod {H : Type} {enc : TypeId × Value → H} {W : World} {fuel : Nat} {L : List Value} {x : DataW H × List MemPlace} (hL : L.length = 3)
    (hf : DataW.trod enc Tryz.prog W 0 (fun _ => true) true fuel 41 L = some x) :
    ∃ z : Aj, L = z.cells ∧ (Rows.uptoBulk x.1 ≤ 1048576 → z.In W ∧ z.bulk ≤ Rows.uptoBulk x.1) := by
  have hu := Tryz.underlying41
  obtain ⟨xs, n, _, hx, _, hxl, hfs⟩ := DataW.trod_struct hu hf
  match xs, hxl with
  | [y0, y1, y2], _ =>
    have h0 : DataW.trod enc Tryz.prog W 0 (fun _ => true) true n 4 ((L.drop 0).take (Tryz.prog.cellsOf 4)) = some y0 := hfs 0 _ rfl
    have h1 : DataW.trod enc Tryz.prog W 0 (fun _ => true) true n 3 ((L.drop 1).take (Tryz.prog.cellsOf 3)) = some y1 := hfs 1 _ rfl
    have h2 : DataW.trod enc Tryz.prog W 0 (fun _ => true) true n 39 ((L.drop 2).take (Tryz.prog.cellsOf 39)) = some y2 := hfs 2 _ rfl
    rw [cboA] at h0
    rw [ciA] at h1
    rw [cbA] at h2
    obtain ⟨b, e0, x0⟩ := DataW.trod_bool uboA h0
    obtain ⟨k, e1, x1, w1⟩ := DataW.trod_int uiA h1
    obtain ⟨a, l, c, zs, e2, hzl, s2⟩ := slA_trod h2
    have hb : Rows.uptoBulk x.1 = 1 + 1 + Rows.uptoBulk y2.1 + 1 := by
      rw [hx]
      simp only [List.map_cons, List.map_nil, Rows.uptoBulk, Rows.uptoBulkAll, x0, x1]
      omega
    refine ⟨⟨b, k, a, l, c, zs⟩, ?_, fun hm => ?_⟩
    · have d0 := cutA e0
      have d1 := cutA e1
      have d2 := cutA e2
      have dd : L.drop 3 = [] := List.drop_of_length_le (by omega)
      simp only [Nat.reduceAdd] at d0 d1 d2
      rw [← List.drop_zero (l := L), d0, d1, d2, dd]
      rfl
    · obtain ⟨t1, t2⟩ := s2 (by omega)
      exact ⟨⟨t1, bounds_i64 w1⟩, by simp only [Aj.bulk, hzl]; omega⟩

theorem bulk_each {H : Type} (D : Nat → DataW H) (f : Nat → Nat) : ∀ l : List Nat, (∀ i ∈ l, f i ≤ Rows.uptoBulk (D i)) → (l.map f).sum ≤ Rows.uptoBulkAll (l.map D)
  | [], _ => by simp [Rows.uptoBulkAll]
  | i :: r, h => by
    have h1 := h i (by simp)
    have h2 := bulk_each D f r (fun j hj => h j (by simp [hj]))
    simp only [List.map_cons, List.sum_cons, Rows.uptoBulkAll]
    omega
theorem bulk_le {H : Type} (D : Nat → DataW H) : ∀ l : List Nat, ∀ i ∈ l, Rows.uptoBulk (D i) ≤ Rows.uptoBulkAll (l.map D)
  | [], i, h => by cases h
  | j :: r, i, h => by
    simp only [List.map_cons, Rows.uptoBulkAll]
    rcases List.mem_cons.1 h with rfl | h
    · omega
    · have := bulk_le D r i h
      omega

set_option maxRecDepth 100000 in
theorem ajs_upto {H : Type} {enc : TypeId × Value → H} {W : World} {base : Nat} {v : Value} {d : DataW H} {p : List MemPlace}
    (hv : Value.okWide Tryz.prog W .any base 25 v) (h : DataW.Trod enc Tryz.prog W 0 (fun _ => true) true 25 v d p) (hm : Rows.uptoBulk d ≤ 1048576) :
    ∃ a len cap L, v = .slice a len cap ∧ Ajs W a len cap L ∧ jbulk L ≤ Rows.uptoBulk d := by
  have hs : Tryz.prog.underlying 25 = some (.slice 41) := by kernel_rfl
  obtain ⟨a, len, cap, rfl⟩ := okWide_slice hs hv
  obtain ⟨fuel, hf⟩ := h
  rcases Deep.open_slice hs hf with ⟨hcs, hx⟩ | ⟨x, l, c, m, n, D, Pl, hcs, _, hl, hmx, hmm, hx, hel⟩
  · simp [Value.cells] at hcs
    obtain ⟨rfl, rfl, rfl⟩ := hcs
    exact ⟨none, 0, 0, [], rfl, ⟨rfl, Nat.le_refl _, by omega, by simp [jbulk], fun i x hx => by simp at hx, fun i x hx => by simp at hx⟩, by simp [jbulk]⟩
  · simp [Value.cells] at hcs
    obtain ⟨rfl, rfl, rfl⟩ := hcs
    have hmc : m = cap := by simpa using hmm
    subst hmc
    simp only [Prod.mk.injEq] at hx
    have hb : Rows.uptoBulkAll ((List.range len).map D) + 1 ≤ Rows.uptoBulk d := by
      rw [hx.1]
      simp only [Rows.uptoBulk]
      omega
    have hsp : 0 < len → x.spot = none := fun h0 => by
      obtain ⟨cs', h1, _⟩ := hel 0 (by omega)
      rw [caA] at h1
      obtain ⟨_, hlen, hcell⟩ := World.cells?_some h1
      have := hcell 0 (by omega)
      rw [List.getElem?_eq_getElem (by omega)] at this
      simpa [Addr.add] using World.cell?_spot this
    have each : ∀ i, i < len → ∃ z : Aj, W.rangeAt x.block (x.off + i * 3) z.cells ∧ x.spot = none ∧ z.In W ∧ z.bulk ≤ Rows.uptoBulk (D i) := by
      intro i hi
      obtain ⟨cs', h1, h2⟩ := hel i (by omega)
      rw [caA] at h1
      obtain ⟨_, hlen, hcell⟩ := World.cells?_some h1
      obtain ⟨z, hz, hq⟩ := aj_trod hlen h2
      have hbi := bulk_le D (List.range len) i (List.mem_range.2 hi)
      obtain ⟨q1, q2⟩ := hq (by show Rows.uptoBulk (D i) ≤ 1048576; omega)
      obtain ⟨b, off, spot⟩ := x
      have hs : spot = none := hsp (by omega)
      subst hs
      refine ⟨z, fun j v hv => ?_, rfl, q1, q2⟩
      have hj : j < 3 := by
        have := (List.getElem?_eq_some_iff.1 hv).1
        rw [← hz, hlen] at this
        exact this
      have := hcell j hj
      rw [hz, hv, Addr.add_lit, Addr.add_lit] at this
      exact this
    have hI : Inhabited Aj := ⟨⟨false, 0, none, 0, 0, []⟩⟩
    obtain ⟨y, hy⟩ := Deep.choose_lt each
    have hL : ∀ i z, ((List.range len).map y)[i]? = some z → i < len ∧ z = y i := by
      intro i z hz
      rw [List.getElem?_map] at hz
      obtain ⟨j, hj, rfl⟩ := Option.map_eq_some_iff.1 hz
      have h3 := List.getElem?_eq_some_iff.1 hj
      obtain ⟨h4, h5⟩ := h3
      simp at h4 h5
      exact ⟨h4, by rw [h5]⟩
    have hsum : jbulk ((List.range len).map y) ≤ Rows.uptoBulkAll ((List.range len).map D) := by
      unfold jbulk
      rw [List.map_map]
      exact bulk_each D _ _ (fun i hi => (hy i (List.mem_range.1 hi)).2.2.2)
    refine ⟨some x, len, m, (List.range len).map y, rfl, ⟨by simp, hl, by unfold maxLen at hmx; omega, by omega, fun i z hz => ?_, fun i z hz => ?_⟩, by omega⟩
    · obtain ⟨h1, rfl⟩ := hL i z hz
      exact (hy i h1).2.2.1
    · obtain ⟨h1, rfl⟩ := hL i z hz
      refine ⟨x.block, x.off, ?_, (hy i h1).1⟩
      have := (hy i h1).2.1
      obtain ⟨b, off, spot⟩ := x
      subst this
      rfl

end Go.Proofs.YtninkkdbcgadpaaGreatDoor
