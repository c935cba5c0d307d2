/-
  Nodes copied: []Node{} and an append of a slice of nodes onto it.
-/
import Derived.Test.YtnlpgkfmjlljdaaTmb
import Derived.Deep.Upon
namespace Go.Proofs.Ytnlpgkfmjlljdaa
open Go.RowKit
set_option linter.unusedVariables false

def ics (ns : List (Int × Int)) : List Value := ns.flatMap fun x => [.int .i64 x.1, .int .i64 x.2]
theorem ics_length : ∀ ns : List (Int × Int), (ics ns).length = ns.length * 2
  | [] => rfl
  | n :: ns => by
    have ih := ics_length ns
    show ([_, _] ++ ics ns).length = _
    rw [List.length_append, ih, List.length_cons]
    simp
    omega
theorem ics_at : ∀ (ns : List (Int × Int)) (i : Nat) (x : Int × Int), ns[i]? = some x → (ics ns)[i * 2]? = some (.int .i64 x.1) ∧ (ics ns)[i * 2 + 1]? = some (.int .i64 x.2)
  | [], i, x, h => by simp at h
  | m :: ns, 0, x, h => by simp at h; subst h; exact ⟨rfl, rfl⟩
  | m :: ns, i + 1, x, h => by
    have := ics_at ns i x (by simpa using h)
    rw [show (i + 1) * 2 = i * 2 + 2 by omega]
    exact this
theorem ics_get : ∀ (ns : List (Int × Int)) (j : Nat) (u : Value), (ics ns)[j]? = some u → ∃ i x, ns[i]? = some x ∧ ((j = i * 2 ∧ u = .int .i64 x.1) ∨ (j = i * 2 + 1 ∧ u = .int .i64 x.2))
  | [], j, u, h => by simp [ics] at h
  | m :: ns, 0, u, h => ⟨0, m, rfl, .inl ⟨rfl, (Option.some.inj h).symm⟩⟩
  | m :: ns, 1, u, h => ⟨0, m, rfl, .inr ⟨rfl, (Option.some.inj h).symm⟩⟩
  | m :: ns, j + 2, u, h => by
    obtain ⟨i, x, h1, h2⟩ := ics_get ns j u h
    refine ⟨i + 1, x, by simpa using h1, ?_⟩
    rcases h2 with ⟨rfl, h2⟩ | ⟨rfl, h2⟩
    · exact .inl ⟨by omega, h2⟩
    · exact .inr ⟨by omega, h2⟩
theorem One.ics (ns : List (Int × Int)) : ∀ u ∈ ics ns, u.oneCell' = true := by
  intro u hu
  obtain ⟨x, _, hx⟩ := List.mem_flatMap.1 hu
  simp at hx
  rcases hx with rfl | rfl <;> rfl
theorem infoNd : (Try.prog.info? 23).map (fun i => (i.zero, i.size, i.bytes)) = some (some (.agg #[.int .i64 0, .int .i64 0]), 2, 16) := by kernel_rfl
theorem undNd : Try.prog.underlying 46 = some (.slice 23) := by kernel_rfl
theorem build0Nd (w : World) : (Instr.buildSlice 46 0 #[]).run Try.prog w = .ok (.slice (some ⟨w.heap.size, 0, none⟩) 0 0) (w.alloc (.cells #[] 23)) := by kernel_rfl
/-- The copy's cells. -/
theorem Nds.ofRow {w : World} {B g cap : Nat} {ns : List (Int × Int)} (h : w.ownsRow B 23 2 (.slice (some ⟨g, 0, none⟩) ns.length cap) ns.length (ics ns)) : Nds w (some ⟨g, 0, none⟩) ns.length cap ns ∧ B ≤ g ∧ g < w.heap.size := by
  rcases h.2 with ⟨e, _⟩ | ⟨g', cap', cur, e, hB, hh, h3, h4, h5, h6⟩
  · cases e
  · injection e with e1 _ e3
    injection e1 with e1
    injection e1 with e1 _ _
    subst e1 e3
    have hb : Blk w g 23 cur.toList := by unfold Blk; simpa using hh
    refine ⟨⟨rfl, h3, by simpa [maxLen] using h4, fun i x hx => ⟨g, 0, rfl, ?_, ?_⟩⟩, hB, (Array.getElem?_eq_some_iff.1 hh).1⟩
    · obtain ⟨k1, k2⟩ := ics_at ns i x hx
      rw [Nat.zero_add, hb.cell]
      rw [← h6, List.getElem?_take] at k1
      split at k1
      · exact k1
      · cases k1
    · obtain ⟨k1, k2⟩ := ics_at ns i x hx
      rw [Nat.zero_add, hb.cell]
      rw [← h6, List.getElem?_take] at k2
      split at k2
      · exact k2
      · cases k2
section
variable {dst : Option Tmp} {ty : TypeId} {pos : String} {aft : Array Edge} {gd : Option (Nat × Bool)} {ops : Array Oper} {rest : List Oper} {a : Act} {w : World} {K : Act → World → Prop} {Q : Exit → Act → World → Prop}
theorem wp_0nd (h : ∀ w1 g, w1.ownsRow w.heap.size 23 2 (.slice (some ⟨g, 0, none⟩) 0 0) 0 [] → Below w.heap.size w w1 → K (a.put dst (.slice (some ⟨g, 0, none⟩) 0 0)) w1) :
    Oper.wp Try.prog ⟨dst, .buildSlice 46 0 #[], ty, pos, aft, gd⟩ a w K Q := by
  refine wp_runV (.slice (some ⟨w.heap.size, 0, none⟩) 0 0) (w.alloc (.cells #[] 23)) ?_ (h _ _ ⟨by simp, .inr ⟨w.heap.size, 0, #[], rfl, Nat.le_refl _, heap_alloc_new w _, Nat.le_refl _, by unfold maxLen; omega, by simp, by simp⟩⟩ ((Below.refl _ _).alloc (Nat.le_refl _) _))
  unfold execOp
  simp only [List.map_toArray, List.map_nil]
  simp only [Sem.run_bind, build0Nd, Result.andThen_ok, Sem.run_pure]
/-- A slice of nodes appended to an empty one of the call's own: a copy. -/
theorem wp_copyNd {s x : Operand} {B g0 : Nat} {b : Option Addr} {len cap : Nat} {ns : List (Int × Int)} (hs : a.eval s = .slice (some ⟨g0, 0, none⟩) 0 0) (hx : a.eval x = .slice b len cap) (hown : w.ownsRow B 23 2 (.slice (some ⟨g0, 0, none⟩) 0 0) 0 []) (hn : Nds w b len cap ns) (hlen : len ≤ 1048576) (hB : B ≤ w.heap.size)
    (h : ∀ g c w', Nds w' (some ⟨g, 0, none⟩) len c ns → B ≤ g → g < w'.heap.size → w.grownBy w' (some g0) → K (a.put dst (.slice (some ⟨g, 0, none⟩) len c)) w') :
    Oper.wp Try.prog ⟨dst, .call { callee := .builtin .append, args := #[s, x], argTypes := #[46, 46] }, ty, pos, aft, gd⟩ a w K Q := by
  obtain ⟨i0, hi, hz0, hz1, hz2⟩ := info_some infoNd
  have hl := hn.hlen
  subst hl
  cases ns with
  | nil =>
    have hr : (Builtin.append_ #[46, 46] ty #[.slice (some ⟨g0, 0, none⟩) 0 0, .slice b 0 cap]).run Try.prog w = .ok (.slice (some ⟨g0, 0, none⟩) 0 0) w := by
      cases b with
      | none => exact run_append_nothing w _ _ ty _ i0 undNd hi _ 0 0 (Nat.le_refl _) _ (Src.ofNil w undNd cap)
      | some ad => exact run_append_nothing w _ _ ty _ i0 undNd hi _ 0 0 (Nat.le_refl _) _ (Src.ofSlice w undNd ad 0 cap [] (by simp) (fun j u hu => by simp at hu) (fun u hu => by simp at hu))
    obtain ⟨k1, k2, k3⟩ := Nds.ofRow (ns := []) hown
    unfold Oper.wp
    simp only [List.length_nil] at hx
    simp [execOp, resolve, invoke, builtin, hs, hx, hr, Result.andThen]
    exact h _ _ _ k1 k2 k3 (World.grownBy.refl _ _)
  | cons m ms =>
    obtain ⟨b0, o0, rfl, _⟩ := hn.hcell 0 m rfl
    obtain ⟨g', cap', w', hr, ho, hgr, hat, hlt⟩ := run_append_lies (P := Try.prog) w 46 ty B 23 i0 _ 2 16 undNd hi hz0 hz1 hz2 rfl (by decide) _ _ _ hown ⟨b0, o0, none⟩ (m :: ms).length cap (ics (m :: ms)) (ics_length _) (fun j u hu => by
      obtain ⟨i, x, h1, h2⟩ := ics_get _ j u hu
      obtain ⟨b1, o1, e1, c1, c2⟩ := hn.hcell i x h1
      cases e1
      rw [Addr.add_lit]
      rcases h2 with ⟨rfl, rfl⟩ | ⟨rfl, rfl⟩
      · exact c1
      · exact c2) (One.ics _) (by simp) (by unfold maxLen; omega) (by omega) hB _ rfl
    rw [Nat.zero_add, List.nil_append] at ho
    rw [Nat.zero_add] at hr
    obtain ⟨k1, k2, k3⟩ := Nds.ofRow ho
    unfold Oper.wp
    simp [-List.length_cons, execOp, resolve, invoke, builtin, hs, hx, hr, Result.andThen]
    exact h _ _ _ k1 k2 k3 hgr
end
end Go.Proofs.Ytnlpgkfmjlljdaa
