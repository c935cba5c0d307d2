/-
  How much a reading holds; pieces, one behind the other; what a slice of the call's own stays through.
-/
import Derived.Test.YtconeobaohmbnaaDoorFr
import Derived.Test.YtconeobaohmbnaaDoorTake
import Derived.Test.YtconeobaohmbnaaDoorOw
namespace Go.Proofs.YtconeobaohmbnaaDoor
open Go.RowKit
set_option linter.unusedVariables false

theorem bulk_map {H α : Type} (f : α → DataW H) (g : α → Nat) : ∀ l : List α, (∀ x ∈ l, g x ≤ Rows.uptoBulk (f x)) → (l.map g).sum ≤ Rows.uptoBulkAll (l.map f)
  | [], _ => by simp [Rows.uptoBulkAll]
  | x :: l, h => by
    have h1 := h x (by simp)
    have h2 := bulk_map f g l (fun y hy => h y (by simp [hy]))
    simp only [List.map_cons, List.sum_cons, Rows.uptoBulkAll]
    omega
theorem sum_mem_le (l : List Nat) (x : Nat) (h : x ∈ l) : x ≤ l.sum := by
  induction l with
  | nil => cases h
  | cons y l ih =>
    rw [List.sum_cons]
    rcases List.mem_cons.1 h with rfl | h
    · omega
    · have := ih h; omega

theorem Own.chg {w w' : World} {B g : Nat} {v : Value} {xs : List Int} {t : TypeId} {cs : List Value} (h : Own w B v xs) (hg : Blk w g t cs) (ht : t ≠ 5) (hc : Chg g w w') : Own w' B v xs := by
  obtain ⟨h1, h2⟩ := h
  refine ⟨h1, ?_⟩
  rcases h2 with h2 | ⟨k, cap, cur, e, hk, hh, r⟩
  · exact .inl h2
  · refine .inr ⟨k, cap, cur, e, hk, ?_, r⟩
    have hne : k ≠ g := by
      rintro rfl
      rw [hg] at hh
      injection hh with hh
      injection hh with _ h2 _
      exact ht h2
    rw [hc.block k (Array.getElem?_eq_some_iff.1 hh).1 hne]
    exact hh
theorem Own.but {w w' : World} {B g : Nat} {v : Value} {xs : List Int} (h : Own w B v xs) (hb : But g w w') (hne : ∀ k, v.ownBlock = some k → k ≠ g) : Own w' B v xs := by
  obtain ⟨h1, h2⟩ := h
  refine ⟨h1, ?_⟩
  rcases h2 with h2 | ⟨k, cap, cur, e, hk, hh, r⟩
  · exact .inl h2
  · refine .inr ⟨k, cap, cur, e, hk, ?_, r⟩
    rw [hb.block k (hne k (by rw [e]; rfl))]
    exact hh
theorem flat_succ (ps : List (List Int)) (j : Nat) (h : j < ps.length) : (ps.take j).flatten ++ ps.getD j [] = (ps.take (j + 1)).flatten := by
  rw [List.take_succ_eq_append_getElem h, List.flatten_append]
  simp [List.getD, h]
theorem flat_le (ps : List (List Int)) (j : Nat) : (ps.take j).flatten.length ≤ ps.flatten.length := by
  have : ps.flatten = (ps.take j).flatten ++ (ps.drop j).flatten := by rw [← List.flatten_append, List.take_append_drop]
  rw [this, List.length_append]
  omega


end Go.Proofs.YtconeobaohmbnaaDoor
