/-
  Slices of slices of bytes as an argument (the text of FrL, for seats without hash).
-/
import Derived.Test.YtbkhlbaamjccjaaDoorFr
import Derived.Deep.Matrix
namespace Go.Proofs.YtbkhlbaamjccjaaDoor
open Go.ChangeShapes Go.WideShapes Go.ChangeAt Go.RowKit
set_option linter.unusedVariables false

theorem bulk_map {H α : Type} (f : α → DataW H) (g : α → Nat) : ∀ l : List α, (∀ x ∈ l, g x ≤ Rows.uptoBulk (f x)) → (l.map g).sum ≤ Rows.uptoBulkAll (l.map f)
  | [], _ => by simp [Rows.uptoBulkAll]
  | x :: l, h => by
    have h1 := h x (by simp)
    have h2 := bulk_map f g l (fun y hy => h y (by simp [hy]))
    simp only [List.map_cons, List.sum_cons, Rows.uptoBulkAll]
    omega
theorem sum_mem_le (l : List Nat) (x : Nat) (h : x ∈ l) : x ≤ l.sum := by
  induction l with
  | nil => cases h
  | cons y l ih =>
    rw [List.sum_cons]
    rcases List.mem_cons.1 h with rfl | h
    · omega
    · have := ih h; omega
/-- A slice of slices of bytes in memory. -/
structure Sls (w : World) (a : Option Addr) (len cap : Nat) (ps : List (List Int)) : Prop where
  hlen : ps.length = len
  hmax : len ≤ 1048576
  hsum : ps.flatten.length ≤ 1048576
  hcell : ∀ i, i < len → ∃ b off ai li ci, a = some ⟨b, off, none⟩ ∧ w.cell? ⟨b, off + i, none⟩ = some (.slice ai li ci) ∧ Sl w ai li ci (ps.getD i []) ∧ li ≤ 1048576
theorem Sls.below {w w' : World} {a : Option Addr} {len cap : Nat} {ps : List (List Int)} (h : Sls w a len cap ps) (hb : Below w.heap.size w w') : Sls w' a len cap ps := by
  refine ⟨h.hlen, h.hmax, h.hsum, fun i hi => ?_⟩
  obtain ⟨b, off, ai, li, ci, e, hc, hs, hl⟩ := h.hcell i hi
  exact ⟨b, off, ai, li, ci, e, by rw [hb.cell (World.block_lt_of_cell? w _ hc)]; exact hc, hs.below hb, hl⟩

set_option maxRecDepth 100000 in
theorem sls_upto {H : Type} {enc : TypeId × Value → H} {W : World} {base : Nat} {v : Value} {d : DataW H} {p : List MemPlace}
    (hv : Value.okWide Tryd.prog W .any base 41 v) (h : DataW.Trod enc Tryd.prog W 0 (fun _ => true) true 41 v d p) (hm : Rows.uptoBulk d ≤ 1048576) :
    ∃ a len cap ps, v = .slice a len cap ∧ Sls W a len cap ps := by
  have hu : Tryd.prog.underlying 41 = some (.slice 23) := by kernel_rfl
  obtain ⟨a, len, cap, rfl⟩ := okWide_slice hu hv
  obtain ⟨fuel, hf⟩ := h
  rcases Deep.open_int_rows hu undBs undB (by kernel_rfl) (by kernel_rfl) hf with ⟨hcs, hx⟩ | ⟨x, l, c, A, L, C, Z, hcs, _, hl, hmx, hx, hcell⟩
  · simp [Value.cells] at hcs
    obtain ⟨rfl, rfl, rfl⟩ := hcs
    exact ⟨none, 0, 0, [], rfl, rfl, by omega, by simp, fun i hi => absurd hi (by omega)⟩
  · simp [Value.cells] at hcs
    obtain ⟨rfl, rfl, rfl⟩ := hcs
    simp only [Prod.mk.injEq] at hx
    rw [hx.1] at hm
    simp only [Rows.uptoBulk] at hm
    have hrow : ∀ r ∈ List.range len, ((Z r).take (L r)).length + 1 ≤ Rows.uptoBulk (H := H) (Deep.intRow .u8 (A r) (L r) (Z r)) := by
      intro r hr
      have hrl : r < len := List.mem_range.1 hr
      obtain ⟨_, h1, _, h3, _, h5, _⟩ := hcell r (by omega)
      unfold Deep.intRow
      cases hA : A r with
      | none =>
        have := h5 hA
        simp only [Rows.uptoBulk, List.length_take]
        omega
      | some a' =>
        simp only [Rows.uptoBulk, bulk_ints, List.length_take, List.length_drop]
        omega
    have hsum := bulk_map (H := H) (fun r => Deep.intRow .u8 (A r) (L r) (Z r)) (fun r => ((Z r).take (L r)).length + 1) (List.range len) hrow
    have hs1 : ((List.range len).map fun r => ((Z r).take (L r)).length + 1).sum ≤ 1048576 := by omega
    have hs2 : ∀ l : List Nat, (l.map fun r => ((Z r).take (L r)).length + 1).sum = (l.map fun r => ((Z r).take (L r)).length).sum + l.length := by
      intro l
      induction l with
      | nil => rfl
      | cons y l ih => simp only [List.map_cons, List.sum_cons, List.length_cons, ih]; omega
    rw [hs2, List.length_range] at hs1
    refine ⟨some x, len, cap, (List.range len).map fun r => (Z r).take (L r), rfl, by simp, by omega, ?_, fun i hi => ?_⟩
    · rw [List.length_flatten, List.map_map]
      have : ((List.range len).map (List.length ∘ fun r => (Z r).take (L r))).sum = ((List.range len).map fun r => ((Z r).take (L r)).length).sum := rfl
      rw [this]
      omega
    · obtain ⟨h0, h1, h2, h3, h4, h5, h6⟩ := hcell i (by omega)
      obtain ⟨b, off, spot⟩ := x
      have hsp : spot = none := by
        have := (hcell 0 (by omega)).1
        simpa [Addr.add] using World.cell?_spot this
      subst hsp
      rw [Addr.add_lit] at h0
      have hi1 : ((Z i).take (L i)).length ≤ 1048576 := by
        have : ((Z i).take (L i)).length ≤ ((List.range len).map fun r => ((Z r).take (L r)).length).sum := sum_mem_le _ _ (List.mem_map.2 ⟨i, List.mem_range.2 hi, rfl⟩)
        omega
      have hLi : L i ≤ 1048576 := by rw [List.length_take] at hi1; omega
      have hg : ((List.range len).map fun r => (Z r).take (L r)).getD i [] = (Z i).take (L i) := by simp [List.getD, hi]
      refine ⟨b, off, A i, L i, C i, rfl, h0, ?_, hLi⟩
      rw [hg]
      refine ⟨by rw [List.length_take]; omega, h1, by have := h2; unfold maxLen at this; omega, by omega, fun y hy => wf_u8 (h4 y (List.mem_of_mem_take hy)), fun e => ?_, fun hp => ?_⟩
      · have := h5 e
        omega
      · cases hA : A i with
        | none => have := h5 hA; omega
        | some a' =>
          obtain ⟨_, hc'⟩ := h6 a' hA
          obtain ⟨b', off', spot'⟩ := a'
          have hs : spot' = none := by simpa [Addr.add] using World.cell?_spot (hc' 0 (by omega))
          subst hs
          refine ⟨b', off', rfl, fun j hj => ?_⟩
          have e := hc' j (by omega)
          rw [Addr.add_lit] at e
          rw [e]
          simp [List.getD, hj]


end Go.Proofs.YtbkhlbaamjccjaaDoor
