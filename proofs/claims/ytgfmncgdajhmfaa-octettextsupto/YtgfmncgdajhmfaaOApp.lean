/-
  octet, ported from round 1 (App).
-/
import Derived.Test.YtgfmncgdajhmfaaOMem
import Derived.Deep.RegionLaw
namespace Go.Proofs.Ytgfmncgdajhmfaa
open Go.RowKit
set_option linter.unusedVariables false

theorem wp_appendB {o : Oper} {K : Act → World → Prop} {s x : Operand} {a : Act} {w : World} {Q : Exit → Act → World → Prop}
    {B : Nat} {v : Value} {xs : List Int} {sa : Option Addr} {m c : Nat} {ys : List Int}
    (ho : o.op = .call { callee := .builtin .append, args := #[s, x], argTypes := #[22, 22] }) (hs : a.eval s = v) (hx : a.eval x = .slice sa m c) (hown : Own w B v xs) (hy : Sl w sa m c ys)
    (hlen : xs.length + m ≤ 140737488355328) (hB : B ≤ w.heap.size)
    (h : ∀ v' w', Own w' B v' (xs ++ ys) → w.grownBy w' v.ownBlock → (v' = .slice none 0 0 → v = .slice none 0 0 ∧ m = 0) → K (a.put o.dst v') w') : Oper.wp Try.prog o a w K Q := by
  obtain ⟨i0, hi, hz0, hz1, hz2⟩ := info_parts info5b
  cases sa with
  | none =>
    obtain ⟨rfl, rfl⟩ := hy.hnil rfl
    obtain rfl : ys = [] := List.eq_nil_of_length_eq_zero hy.hlen
    have hrun := run_append_owned_none (P := Try.prog) (w := w) B 22 o.type 5 i0 1 Try.underlying22 hi v _ _ hown
    unfold Oper.wp
    simp [execOp, ho, resolve, invoke, builtin, hs, hx, hrun, Result.andThen]
    exact (h v w (by simpa using hown) (World.grownBy.refl _ _) (fun e => ⟨e, rfl⟩))
  | some ad =>
    refine wp_append_own _ s x 22 ho B 5 i0 (.int .u8 0) 1 1 Try.underlying22 hi hz0 hz1 hz2 rfl (by decide) v _ _ hs hown ad m c (ys.map (Value.int .u8)) hx (by simp [hy.hlen]) ?_ (bs_one ys) ?_ ?_ hB ?_
    · intro j u hu
      have hj : j < m := by
        have := (List.getElem?_eq_some_iff.1 hu).1
        simpa [hy.hlen] using this
      obtain ⟨b, off, e, hc⟩ := hy.hcell (by omega)
      obtain rfl := Option.some.inj e
      rw [Addr.add_lit, hc j hj]
      have e2 : (ys.map (Value.int .u8))[j]? = some (.int .u8 (ys.getD j 0)) := by simp [List.getD, hy.hlen, hj]
      rw [e2] at hu
      exact hu
    · unfold maxLen; omega
    · omega
    · intro v' w' h1 h2 h3
      have hm : (xs ++ ys).length = xs.length + m := by rw [List.length_append, hy.hlen]
      exact (h v' w' (by unfold Own; rw [hm, List.map_append]; exact h1) h2 h3.1)


theorem rstep_append {K : Act → World → Prop} {E : Prop} {ops : Array Oper} {o : Oper} (hgd : o.guard = none) {s x : Operand} {a : Act} {w : World} {Q : Exit → Act → World → Prop}
    {B : Nat} {v : Value} {xs : List Int} {sa : Option Addr} {m c : Nat} {ys : List Int}
    (ho : o.op = .call { callee := .builtin .append, args := #[s, x], argTypes := #[22, 22] }) (hs : a.eval s = v) (hx : a.eval x = .slice sa m c) (hown : Own w B v xs) (hy : Sl w sa m c ys)
    (hlen : xs.length + m ≤ 140737488355328) (hB : B ≤ w.heap.size)
    (h : ∀ v' w', Own w' B v' (xs ++ ys) → w.grownBy w' v.ownBlock → (v' = .slice none 0 0 → v = .slice none 0 0 ∧ m = 0) → K (a.put o.dst v') w') :
    if Region.wanted o (yielded ops a.tmps) = true then Oper.wp Try.prog o a w K Q else E := by
  have hw : Region.wanted o (yielded ops a.tmps) = true := by simp [Region.wanted, hgd]
  rw [if_pos hw]
  exact wp_appendB ho hs hx hown hy hlen hB h

theorem Own.sl' {w : World} {B : Nat} {v : Value} {xs : List Int} (h : Own w B v xs) (hb : isB xs) (hl : xs.length ≤ 140737488355328) : ∃ a cap, v = .slice a xs.length cap ∧ Sl w a xs.length cap xs := by
  by_cases hn : v = .slice none 0 0
  · subst hn
    obtain ⟨h1, h2⟩ := h
    rcases h2 with ⟨_, e⟩ | ⟨g, cap, cur, e, _⟩
    · refine ⟨none, 0, by rw [e], by omega, by omega, by omega, hl, hb, fun _ => ⟨e, rfl⟩, fun h0 => absurd h0 (by omega)⟩
    · cases e
  · obtain ⟨g, cap, e, _, hs⟩ := h.sl hb hl hn
    exact ⟨_, cap, e, hs⟩

end Go.Proofs.Ytgfmncgdajhmfaa
