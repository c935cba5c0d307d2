/-
  Slices of slices of bytes; spoil on a slice of the call's own.
-/
import Derived.Test.YtefaabmkcgdkiaaDoorMt
import Derived.Test.YtefaabmkcgdkiaaDoorGb
import Derived.Test.YtefaabmkcgdkiaaDoorFr
import Derived.Deep.Matrix
namespace Go.Proofs.YtefaabmkcgdkiaaDoor
open Go.ChangeShapes Go.WideShapes Go.ChangeAt Go.RowKit
set_option linter.unusedVariables false

/-- A slice of slices of bytes in memory. -/
structure Sls (w : World) (a : Option Addr) (len cap : Nat) (ps : List (List Int)) : Prop where
  hlen : ps.length = len
  hmax : len ≤ 1048576
  hsum : ps.flatten.length ≤ 1048576
  hcell : ∀ i, i < len → ∃ b off ai li ci, a = some ⟨b, off, none⟩ ∧ w.cell? ⟨b, off + i, none⟩ = some (.slice ai li ci) ∧ Sl w ai li ci (ps.getD i []) ∧ li ≤ 1048576
theorem Sls.below {w w' : World} {a : Option Addr} {len cap : Nat} {ps : List (List Int)} (h : Sls w a len cap ps) (hb : Below w.heap.size w w') : Sls w' a len cap ps := by
  refine ⟨h.hlen, h.hmax, h.hsum, fun i hi => ?_⟩
  obtain ⟨b, off, ai, li, ci, e, hc, hs, hl⟩ := h.hcell i hi
  exact ⟨b, off, ai, li, ci, e, by rw [hb.cell (World.block_lt_of_cell? w _ hc)]; exact hc, hs.below hb, hl⟩

set_option maxRecDepth 100000 in
theorem sls_upto {H : Type} {enc : TypeId × Value → H} {W : World} {base : Nat} {v : Value} {d : DataW H} {p : List MemPlace}
    (hv : Value.okWide Tryd.prog W .any base 48 v) (h : DataW.Trod enc Tryd.prog W 0 (fun _ => true) true 48 v d p) (hm : Rows.uptoBulk d ≤ 1048576) :
    ∃ a len cap ps, v = .slice a len cap ∧ Sls W a len cap ps := by
  have hu : Tryd.prog.underlying 48 = some (.slice 27) := by kernel_rfl
  obtain ⟨a, len, cap, rfl⟩ := okWide_slice hu hv
  obtain ⟨fuel, hf⟩ := h
  rcases Deep.open_int_rows hu undBs undB (by kernel_rfl) (by kernel_rfl) hf with ⟨hcs, hx⟩ | ⟨x, l, c, A, L, C, Z, hcs, _, hl, hmx, hx, hcell⟩
  · simp [Value.cells] at hcs
    obtain ⟨rfl, rfl, rfl⟩ := hcs
    exact ⟨none, 0, 0, [], rfl, rfl, by omega, by simp, fun i hi => absurd hi (by omega)⟩
  · simp [Value.cells] at hcs
    obtain ⟨rfl, rfl, rfl⟩ := hcs
    simp only [Prod.mk.injEq] at hx
    rw [hx.1] at hm
    simp only [Rows.uptoBulk] at hm
    have hrow : ∀ r ∈ List.range len, ((Z r).take (L r)).length + 1 ≤ Rows.uptoBulk (H := H) (Deep.intRow .u8 (A r) (L r) (Z r)) := by
      intro r hr
      have hrl : r < len := List.mem_range.1 hr
      obtain ⟨_, h1, _, h3, _, h5, _⟩ := hcell r (by omega)
      unfold Deep.intRow
      cases hA : A r with
      | none =>
        have := h5 hA
        simp only [Rows.uptoBulk, List.length_take]
        omega
      | some a' =>
        simp only [Rows.uptoBulk, bulk_ints, List.length_take, List.length_drop]
        omega
    have hsum := bulk_map (H := H) (fun r => Deep.intRow .u8 (A r) (L r) (Z r)) (fun r => ((Z r).take (L r)).length + 1) (List.range len) hrow
    have hs1 : ((List.range len).map fun r => ((Z r).take (L r)).length + 1).sum ≤ 1048576 := by omega
    have hs2 : ∀ l : List Nat, (l.map fun r => ((Z r).take (L r)).length + 1).sum = (l.map fun r => ((Z r).take (L r)).length).sum + l.length := by
      intro l
      induction l with
      | nil => rfl
      | cons y l ih => simp only [List.map_cons, List.sum_cons, List.length_cons, ih]; omega
    rw [hs2, List.length_range] at hs1
    refine ⟨some x, len, cap, (List.range len).map fun r => (Z r).take (L r), rfl, by simp, by omega, ?_, fun i hi => ?_⟩
    · rw [List.length_flatten, List.map_map]
      have : ((List.range len).map (List.length ∘ fun r => (Z r).take (L r))).sum = ((List.range len).map fun r => ((Z r).take (L r)).length).sum := rfl
      rw [this]
      omega
    · obtain ⟨h0, h1, h2, h3, h4, h5, h6⟩ := hcell i (by omega)
      obtain ⟨b, off, spot⟩ := x
      have hsp : spot = none := by
        have := (hcell 0 (by omega)).1
        simpa [Addr.add] using World.cell?_spot this
      subst hsp
      rw [Addr.add_lit] at h0
      have hi1 : ((Z i).take (L i)).length ≤ 1048576 := by
        have : ((Z i).take (L i)).length ≤ ((List.range len).map fun r => ((Z r).take (L r)).length).sum := sum_mem_le _ _ (List.mem_map.2 ⟨i, List.mem_range.2 hi, rfl⟩)
        omega
      have hLi : L i ≤ 1048576 := by rw [List.length_take] at hi1; omega
      have hg : ((List.range len).map fun r => (Z r).take (L r)).getD i [] = (Z i).take (L i) := by simp [List.getD, hi]
      refine ⟨b, off, A i, L i, C i, rfl, h0, ?_, hLi⟩
      rw [hg]
      refine ⟨by rw [List.length_take]; omega, h1, by have := h2; unfold maxLen at this; omega, by omega, fun y hy => wf_u8 (h4 y (List.mem_of_mem_take hy)), fun e => ?_, fun hp => ?_⟩
      · have := h5 e
        omega
      · cases hA : A i with
        | none => have := h5 hA; omega
        | some a' =>
          obtain ⟨_, hc'⟩ := h6 a' hA
          obtain ⟨b', off', spot'⟩ := a'
          have hs : spot' = none := by simpa [Addr.add] using World.cell?_spot (hc' 0 (by omega))
          subst hs
          refine ⟨b', off', rfl, fun j hj => ?_⟩
          have e := hc' j (by omega)
          rw [Addr.add_lit] at e
          rw [e]
          simp [List.getD, hj]

set_option maxHeartbeats 400000 in
theorem spoil3_own (g n cap : Nat) (xs : List Int) (B : Nat) (w : World) (ho : Own w B (.slice (some ⟨g, 0, none⟩) n cap) xs) (hx : xs.length = n) (hn : n ≤ 140737488355328) :
    Calls Tryd.prog 24 #[.slice (some ⟨g, 0, none⟩) n cap] w fun e w' => e = .returned (.tuple #[]) ∧ But g w w' := by
  obtain ⟨t, cs, hg, hcs⟩ : ∃ t cs, Blk w g t cs ∧ cs.take n = u8s xs := by
    rcases ho.2 with ⟨e, _⟩ | ⟨g', c', cur, e, _, hh, h3, h4, h5, h6⟩
    · cases e
    · cases e
      refine ⟨5, cur.toList, ?_, ?_⟩
      · unfold Blk; simpa using hh
      · simpa [hx] using h6
  clear ho
  go_enter Tryd.func24, Tryd.ntmps24
  go_wp2
  go_loopw [2] (fun i wr => ∃ k : Nat, k ≤ n ∧ i = .int .i64 k ∧ (∃ ys cs', Blk wr g t cs' ∧ cs'.take n = u8s ys ∧ ys.length = n) ∧ But g w wr) (fun i _ => n - (intOf i).toNat)
  case atStart => exact ⟨0, by omega, rfl, ⟨xs, cs, hg, hcs, hx⟩, But.refl _ _⟩
  case round =>
    obtain ⟨k, hk, rfl, ⟨ys, cs', hr1, hc1, hy⟩, hb1⟩ := hrel
    have HY := hide hy
    have HR := hide hr1
    have HC := hide hc1
    clear hy hr1 hc1 hg hx hcs
    by_cases hlt : k < n
    · have hcell : wr.cell? ⟨g, k, none⟩ = some (.int .u8 (ys.getD k 0)) := by
        have e : (cs'.take n)[k]? = some (.int .u8 (ys.getD k 0)) := by rw [HC.out]; exact u8s_get _ _ (by rw [HY.out]; exact hlt)
        rw [HR.out.cell]
        rw [List.getElem?_take, if_pos hlt] at e
        exact e
      have hfree : wr.frozen? ⟨g, k, none⟩ = false := HR.out.free k
      go_wp2
      go_roundw
      case rel =>
        have h := HR.out.set k (.int .u8 ((ys.getD k 0 + 1) % 256))
        refine ⟨k + 1, by omega, by go_num, ⟨ys.set k ((ys.getD k 0 + 1) % 256), _, h, ?_, by rw [List.length_set]; exact HY.out⟩, hb1.trans (But.setCell _ _ _ _)⟩
        rw [List.take_set, HC.out, u8s_set]
      case measure => simp [intOf]; omega
    · go_wp2
      go_end0
      exact ⟨rfl, hb1⟩

theorem Kd.but {w w' : World} {k g q : Nat} {key m : List Int} (h : Kd w k g key m) (hb : But q w w') (hk : k ≠ q) (hg : g ≠ q) : Kd w' k g key m := ⟨h.obj.but hb hk, h.st.but hb hg⟩
theorem Kd.grown {w w' : World} {k g B : Nat} {key m : List Int} {v : Value} {xs : List Int} (h : Kd w k g key m) (ho : Own w B v xs) (hg : w.grownBy w' v.ownBlock) : Kd w' k g key m :=
  ⟨h.obj.grown (by decide) ho hg, h.st.grown (by decide) ho hg⟩

end Go.Proofs.YtefaabmkcgdkiaaDoor
