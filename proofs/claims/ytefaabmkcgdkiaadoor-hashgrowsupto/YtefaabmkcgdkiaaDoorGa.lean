/-
  Acts: a slice of structs of a number and a slice of bytes; spoil on a slice of the call's own.
-/
import Derived.Test.YtefaabmkcgdkiaaDoorGb
import Derived.Deep.SlicePairs
namespace Go.Proofs.YtefaabmkcgdkiaaDoor
open Go.ChangeShapes Go.WideShapes Go.ChangeAt Go.RowKit
set_option linter.unusedVariables false

set_option maxHeartbeats 400000 in
theorem spoil2_own (g n cap : Nat) (xs : List Int) (B : Nat) (w : World) (ho : Own w B (.slice (some ⟨g, 0, none⟩) n cap) xs) (hx : xs.length = n) (hn : n ≤ 140737488355328) :
    Calls Tryd.prog 13 #[.slice (some ⟨g, 0, none⟩) n cap] w fun e w' => e = .returned (.tuple #[]) ∧ But g w w' := by
  obtain ⟨t, cs, hg, hcs⟩ : ∃ t cs, Blk w g t cs ∧ cs.take n = u8s xs := by
    rcases ho.2 with ⟨e, _⟩ | ⟨g', c', cur, e, _, hh, h3, h4, h5, h6⟩
    · cases e
    · cases e
      refine ⟨5, cur.toList, ?_, ?_⟩
      · unfold Blk; simpa using hh
      · simpa [hx] using h6
  clear ho
  go_enter Tryd.func13, Tryd.ntmps13
  go_wp2
  go_loopw [2] (fun i wr => ∃ k : Nat, k ≤ n ∧ i = .int .i64 k ∧ (∃ ys cs', Blk wr g t cs' ∧ cs'.take n = u8s ys ∧ ys.length = n) ∧ But g w wr) (fun i _ => n - (intOf i).toNat)
  case atStart => exact ⟨0, by omega, rfl, ⟨xs, cs, hg, hcs, hx⟩, But.refl _ _⟩
  case round =>
    obtain ⟨k, hk, rfl, ⟨ys, cs', hr1, hc1, hy⟩, hb1⟩ := hrel
    have HY := hide hy
    have HR := hide hr1
    have HC := hide hc1
    clear hy hr1 hc1 hg hx hcs
    by_cases hlt : k < n
    · have hcell : wr.cell? ⟨g, k, none⟩ = some (.int .u8 (ys.getD k 0)) := by
        have e : (cs'.take n)[k]? = some (.int .u8 (ys.getD k 0)) := by rw [HC.out]; exact u8s_get _ _ (by rw [HY.out]; exact hlt)
        rw [HR.out.cell]
        rw [List.getElem?_take, if_pos hlt] at e
        exact e
      have hfree : wr.frozen? ⟨g, k, none⟩ = false := HR.out.free k
      go_wp2
      go_roundw
      case rel =>
        have h := HR.out.set k (.int .u8 ((ys.getD k 0 + 1) % 256))
        refine ⟨k + 1, by omega, by go_num, ⟨ys.set k ((ys.getD k 0 + 1) % 256), _, h, ?_, by rw [List.length_set]; exact HY.out⟩, hb1.trans (But.setCell _ _ _ _)⟩
        rw [List.take_set, HC.out, u8s_set]
      case measure => simp [intOf]; omega
    · go_wp2
      go_end0
      exact ⟨rfl, hb1⟩

/-- Acts in memory: their kinds, their bytes. -/
structure Acs (w : World) (a : Option Addr) (len cap : Nat) (ks : Nat → Int) (ps : List (List Int)) : Prop where
  hlen : ps.length = len
  hcap : len ≤ cap
  hmax : len ≤ 1048576
  hsum : ps.flatten.length ≤ 1048576
  hcell : ∀ i, i < len → ∃ b off ai li ci, a = some ⟨b, off, none⟩ ∧ w.cell? ⟨b, off + 2 * i, none⟩ = some (.int .i64 (ks i)) ∧ w.cell? ⟨b, off + 2 * i + 1, none⟩ = some (.slice ai li ci) ∧ Sl w ai li ci (ps.getD i []) ∧ li ≤ 1048576
theorem Acs.below {w w' : World} {a : Option Addr} {len cap : Nat} {ks : Nat → Int} {ps : List (List Int)} (h : Acs w a len cap ks ps) (hb : Below w.heap.size w w') : Acs w' a len cap ks ps := by
  refine ⟨h.hlen, h.hcap, h.hmax, h.hsum, fun i hi => ?_⟩
  obtain ⟨b, off, ai, li, ci, e, hk, hc, hs, hl⟩ := h.hcell i hi
  exact ⟨b, off, ai, li, ci, e, by rw [hb.cell (World.block_lt_of_cell? w _ hk)]; exact hk, by rw [hb.cell (World.block_lt_of_cell? w _ hc)]; exact hc, hs.below hb, hl⟩

set_option maxRecDepth 100000 in
theorem acs_upto {f0 f1 : Field} (hu : Tryd.prog.underlying 33 = some (.struct #[f0, f1])) (o0 : f0.offset = 0) (o1 : f1.offset = 1) (t0 : f0.type = 3) (t1 : f1.type = 27)
    {H : Type} {enc : TypeId × Value → H} {W : World} {base : Nat} {v : Value} {d : DataW H} {p : List MemPlace}
    (hv : Value.okWide Tryd.prog W .any base 22 v) (h : DataW.Trod enc Tryd.prog W 0 (fun _ => true) true 22 v d p) (hm : Rows.uptoBulk d ≤ 1048576) :
    ∃ a len cap ks ps, v = .slice a len cap ∧ Acs W a len cap ks ps := by
  have hs : Tryd.prog.underlying 22 = some (.slice 33) := by kernel_rfl
  have hi : Tryd.prog.underlying 3 = some (.int .i64) := by kernel_rfl
  have c0 : Tryd.prog.cellsOf f0.type = 1 := by rw [t0]; kernel_rfl
  have c1 : Tryd.prog.cellsOf f1.type = 1 := by rw [t1]; kernel_rfl
  obtain ⟨a, len, cap, rfl⟩ := okWide_slice hs hv
  obtain ⟨fuel, hf⟩ := h
  rcases Deep.open_slice_pairs hs hu (by kernel_rfl) o0 o1 c0 c1 hf with ⟨hcs, hx⟩ | ⟨x, l, c, q, nn, V0, V1, D0, D1, P0, P1, hcs, _, hl, hmx, hq, hx, hcell⟩
  · simp [Value.cells] at hcs
    obtain ⟨rfl, rfl, rfl⟩ := hcs
    exact ⟨none, 0, 0, fun _ => 0, [], rfl, rfl, Nat.le_refl _, by omega, by simp, fun i hi => absurd hi (by omega)⟩
  · simp [Value.cells] at hcs
    obtain ⟨rfl, rfl, rfl⟩ := hcs
    simp only [if_true] at hq
    have hq2 := hq.symm
    subst hq2
    simp only [Prod.mk.injEq] at hx
    rw [hx.1] at hm
    simp only [Rows.uptoBulk] at hm
    have each : ∀ i, i < cap → ∃ y : Int × Option Addr × Nat × Nat × List Int, V0 i = .int .i64 y.1 ∧ V1 i = .slice y.2.1 y.2.2.1 y.2.2.2.1 ∧ y.2.2.2.2.length = y.2.2.1 ∧ y.2.2.1 ≤ y.2.2.2.1 ∧ y.2.2.2.1 ≤ maxLen ∧ isB y.2.2.2.2 ∧ y.2.2.1 + 1 ≤ Rows.uptoBulk (D1 i) ∧ (y.2.1 = none → y.2.2.1 = 0 ∧ y.2.2.2.1 = 0) ∧
        (0 < y.2.2.1 → ∃ b off, y.2.1 = some ⟨b, off, none⟩ ∧ ∀ j, j < y.2.2.1 → W.cell? ⟨b, off + j, none⟩ = some (.int .u8 (y.2.2.2.2.getD j 0))) := by
      intro i hi2
      obtain ⟨_, _, h0, h1⟩ := hcell i hi2
      rw [t0] at h0
      rw [t1] at h1
      obtain ⟨k, ek, _, _⟩ := DataW.trod_int hi h0
      rcases open_ints undBs undB (by kernel_rfl) h1 with ⟨hc2, hy⟩ | ⟨a', len', cap', zs, hc2, _, hl', hm', hz, hy, hcl, hwz⟩
      · simp only [Prod.mk.injEq] at hy
        refine ⟨(k, none, 0, 0, []), by simpa using ek, by simpa using hc2, rfl, Nat.le_refl _, Nat.zero_le _, (fun x hx => by simp at hx), ?_, fun _ => ⟨rfl, rfl⟩, fun h => absurd h (Nat.lt_irrefl 0)⟩
        rw [hy.1]
        simp [Rows.uptoBulk]
      · simp only [Prod.mk.injEq] at hy
        simp only [if_true] at hz
        refine ⟨(k, some a', len', cap', zs.take len'), by simpa using ek, by simpa using hc2, (show (zs.take len').length = len' by rw [List.length_take, hz]; omega), hl', hm', fun y hy => wf_u8 (hwz y (List.mem_of_mem_take hy)), ?_, (fun e => by cases e), fun hp => ?_⟩
        · rw [hy.1]
          simp only [Rows.uptoBulk, bulk_ints, List.length_take, List.length_drop]
          omega
        · obtain ⟨b, off, spot⟩ := a'
          have hsp : spot = none := by simpa [Addr.add] using World.cell?_spot (hcl 0 (by simp only at hp; omega))
          subst hsp
          refine ⟨b, off, rfl, fun j hj => ?_⟩
          have e := hcl j (by simp only at hj; omega)
          rw [Addr.add_lit] at e
          rw [e]
          simp only at hj
          simp [List.getD, hj]
    obtain ⟨y, hy⟩ := Deep.choose_lt each
    have hsum := bulk_map (H := H) (fun i => .agg [D0 i, D1 i]) (fun r => (y r).2.2.2.2.length + 1) (List.range len) (fun r hr => by
      have := (hy r (by have := List.mem_range.1 hr; omega))
      simp only [Rows.uptoBulk, Rows.uptoBulkAll]
      rw [this.2.2.1]
      have := this.2.2.2.2.2.2.1
      omega)
    have hs1 : ((List.range len).map fun r => (y r).2.2.2.2.length + 1).sum ≤ 1048576 := by omega
    have hs2 : ∀ l : List Nat, (l.map fun r => (y r).2.2.2.2.length + 1).sum = (l.map fun r => (y r).2.2.2.2.length).sum + l.length := by
      intro l
      induction l with
      | nil => rfl
      | cons z l ih => simp only [List.map_cons, List.sum_cons, List.length_cons, ih]; omega
    rw [hs2, List.length_range] at hs1
    refine ⟨some x, len, cap, fun i => (y i).1, (List.range len).map fun r => (y r).2.2.2.2, rfl, by simp, hl, by omega, ?_, fun i hi => ?_⟩
    · rw [List.length_flatten, List.map_map]
      have : ((List.range len).map (List.length ∘ fun r => (y r).2.2.2.2)).sum = ((List.range len).map fun r => (y r).2.2.2.2.length).sum := rfl
      rw [this]
      omega
    · obtain ⟨e0, e1, _, _⟩ := hcell i (by omega)
      obtain ⟨f0, f1, f2, f3, f4, f5, f6, f7, f8⟩ := hy i (by omega)
      obtain ⟨b, off, spot⟩ := x
      have hsp : spot = none := by
        have := (hcell 0 (by omega)).1
        simpa [Addr.add] using World.cell?_spot this
      subst hsp
      rw [Addr.add_lit, show i * 2 = 2 * i by omega] at e0
      rw [Addr.add_lit, show off + (i * 2 + 1) = off + 2 * i + 1 by omega] at e1
      have hi1 : (y i).2.2.2.2.length ≤ 1048576 := by
        have : (y i).2.2.2.2.length ≤ ((List.range len).map fun r => (y r).2.2.2.2.length).sum := sum_mem_le _ _ (List.mem_map.2 ⟨i, List.mem_range.2 hi, rfl⟩)
        omega
      have hg : ((List.range len).map fun r => (y r).2.2.2.2).getD i [] = (y i).2.2.2.2 := by simp [List.getD, hi]
      refine ⟨b, off, (y i).2.1, (y i).2.2.1, (y i).2.2.2.1, rfl, by rw [e0, f0], by rw [e1, f1], ?_, by omega⟩
      rw [hg]
      exact ⟨f2, f3, by unfold maxLen at f4; omega, by omega, f5, f7, f8⟩

end Go.Proofs.YtefaabmkcgdkiaaDoor
