/-
  Spans joined one by one to what stands beside them.
-/
import Derived.Test.YtlniffmhihhkcabSn
namespace Go.Proofs.Ytlniffmhihhkcab
open Go.RowKit
set_option linter.unusedVariables false

/-- A span is joined to what is there, if it stands beside it. -/
def jn (o s : Nat × Nat) : Option (Nat × Nat) := if s.1 < s.2 ∧ (s.2 = o.1 ∨ s.1 = o.2) then some (min o.1 s.1, max o.2 s.2) else none
def jns (o : Nat × Nat) : List (Nat × Nat) → Option (Nat × Nat)
  | [] => some o
  | s :: l => (jn o s).bind fun o' => jns o' l
theorem jns_snoc : ∀ (l : List (Nat × Nat)) (o s : Nat × Nat), jns o (l ++ [s]) = (jns o l).bind fun o' => jn o' s
  | [], o, s => by simp [jns]
  | x :: l, o, s => by
    simp only [List.cons_append, jns]
    cases jn o x with
    | none => rfl
    | some o' => simp [jns_snoc l o' s]
/-- From the part that is met, up to all. -/
theorem jns_dw {stop : Nat → Nat → Bool} {i : Nat} (hE : Ends stop i) : ∀ (f b n : Nat), n ≤ f → b ≤ i → i < b + n → n ≤ 281474976710656 → jns (dw stop i b n).2 (dw stop i b n).1.reverse = some (b, b + n)
  | 0, b, n, h, _, _, _ => by omega
  | f + 1, b, n, h, h1, h2, h3 => by
    by_cases hs : stop b n = true
    · rw [dw_stop hs]; rfl
    · have hs' : stop b n = false := by simpa using hs
      have hn : 2 ≤ n := by
        rcases Nat.lt_or_ge n 2 with hlt | hge
        · exact absurd (hE b n (by omega) h1 h2) hs
        · exact hge
      have hh := hf_bd n hn (by omega)
      by_cases hc : i < b + hf n
      · rw [dw_lo hE hs' hn h3 h1 rfl hc]
        simp only [List.reverse_cons]
        rw [jns_snoc, jns_dw hE f b (hf n) (by omega) h1 hc (by omega)]
        simp only [Option.bind_some, jn]
        rw [if_pos ⟨by show b + hf n < b + n; omega, .inr trivial⟩]
        rw [show min b (b + hf n) = b by omega, show max (b + hf n) (b + n) = b + n by omega]
      · rw [dw_hi hE hs' hn h3 h2 rfl hc]
        simp only [List.reverse_cons]
        rw [jns_snoc, jns_dw hE f (b + hf n) (n - hf n) (by omega) (by omega) (by omega) (by omega)]
        simp only [Option.bind_some, jn]
        rw [if_pos ⟨by show b < b + hf n; omega, .inl trivial⟩]
        rw [show min (b + hf n) b = b by omega, show max (b + hf n + (n - hf n)) (b + hf n) = b + n by omega]
/-- .. up to the k-th. -/
theorem jns_take {l : List (Nat × Nat)} {o e : Nat × Nat} (h : jns o l = some e) : ∀ k, ∃ x, jns o (l.take k) = some x := by
  intro k
  induction l generalizing o k with
  | nil => exact ⟨o, by simp [jns]⟩
  | cons s l ih =>
    cases k with
    | zero => exact ⟨o, rfl⟩
    | succ k =>
      simp only [jns, List.take_succ_cons] at h ⊢
      cases hj : jn o s with
      | none => rw [hj] at h; cases h
      | some o' =>
        rw [hj] at h
        exact ih h k
theorem take_snoc' {α : Type} {l : List α} {k : Nat} {x : α} (h : l[k]? = some x) : l.take (k + 1) = l.take k ++ [x] := by
  obtain ⟨h1, h2⟩ := List.getElem?_eq_some_iff.1 h
  rw [List.take_succ_eq_append_getElem h1, h2]
theorem jns_next {l : List (Nat × Nat)} {o e x s : Nat × Nat} {k : Nat} (h : jns o l = some e) (hx : jns o (l.take k) = some x) (hs : l[k]? = some s) : (s.1 < s.2 ∧ (s.2 = x.1 ∨ s.1 = x.2)) ∧ jns o (l.take (k + 1)) = some (min x.1 s.1, max x.2 s.2) := by
  obtain ⟨y, hy⟩ := jns_take h (k + 1)
  rw [take_snoc' hs, jns_snoc, hx] at hy ⊢
  simp only [Option.bind_some, jn] at hy ⊢
  by_cases hc : s.1 < s.2 ∧ (s.2 = x.1 ∨ s.1 = x.2)
  · rw [if_pos hc]; exact ⟨hc, rfl⟩
  · rw [if_neg hc] at hy; cases hy
theorem jns_whole {l : List (Nat × Nat)} {o e x : Nat × Nat} (h : jns o l = some e) (hx : jns o (l.take l.length) = some x) : x = e := by
  rw [List.take_length, h] at hx
  exact (Option.some.inj hx).symm
/-- What is kept: the spans, and what they have been joined to. -/
structure CI (w0 : World) (L : List (Nat × Nat)) (v : Value) (g : Nat) (o : Nat × Nat) (k : Nat) (w : World) : Prop where
  own : OwnS w w0.heap.size v L
  blk : ∃ x, jns o (L.take k) = some x ∧ Blk w g 27 (qC x)
  ne : v.ownBlock ≠ some g
  bel : Below w0.heap.size w0 w
theorem far_cell {g1 g2 : Nat} (h : g2 ≠ g1) (v : World) (i j : Nat) (x : Value) : (v.setCell ⟨g2, i, none⟩ x).cell? ⟨g1, j, none⟩ = v.cell? ⟨g1, j, none⟩ := World.cell?_setCell_far v _ _ x h

end Go.Proofs.Ytlniffmhihhkcab
