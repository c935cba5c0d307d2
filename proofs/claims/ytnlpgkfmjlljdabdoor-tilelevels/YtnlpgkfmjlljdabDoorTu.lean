/-
  All tiles of a log, level by level, as a list. No program here.
-/
import Derived.Test.YtnlpgkfmjlljdabDoorTa
namespace Go.Proofs.YtnlpgkfmjlljdabDoor
open Go.RowKit
set_option linter.unusedVariables false

/-- How many tiles a level has. -/
def tCt (h l n : Nat) : Nat := (tOv h l n + 2 ^ h - 1) / 2 ^ h
theorem tW_zero {h l i n : Nat} : tW h l i n = 0 ↔ tCt h l n ≤ i := by
  have hp := Nat.two_pow_pos h
  have e : tCt h l n ≤ i ↔ tOv h l n + 2 ^ h - 1 < (i + 1) * 2 ^ h := by
    unfold tCt
    rw [← Nat.lt_succ_iff, Nat.div_lt_iff_lt_mul hp]
  rw [e, Nat.add_mul, Nat.one_mul]
  unfold tW
  generalize tOv h l n = D
  generalize i * 2 ^ h = X
  generalize 2 ^ h = P at *
  omega
theorem tCt_le {h l n : Nat} (hn : n ≤ 281474976710656) : tCt h l n ≤ 281474976710656 := by
  have hp := Nat.two_pow_pos h
  have := Nat.le_trans (tOv_le h l n) hn
  unfold tCt
  generalize tOv h l n = D at *
  generalize 2 ^ h = P at *
  rcases Nat.lt_or_ge 281474976710656 ((D + P - 1) / P) with h1 | h1
  · exfalso
    have h2 := (Nat.le_div_iff_mul_le hp).1 (show 281474976710657 ≤ (D + P - 1) / P from h1)
    omega
  · exact h1
def tRow (h n l : Nat) : List (Nat × Nat) := (List.range (tCt h l n)).map fun i => (l, i)
def tAll (h n : Nat) : List (Nat × Nat) := (List.range (tLv h n)).flatMap (tRow h n)
/-- The tiles ahead of one. -/
def tPre (h n l i : Nat) : List (Nat × Nat) := (List.range l).flatMap (tRow h n) ++ (List.range i).map fun i => (l, i)
theorem tPre_start (h n : Nat) : tPre h n 0 0 = [] := rfl
theorem tPre_step (h n l i : Nat) : tPre h n l (i + 1) = tPre h n l i ++ [(l, i)] := by
  unfold tPre
  rw [List.range_succ, List.map_append, ← List.append_assoc]
  rfl
theorem tPre_row (h n l : Nat) : tPre h n l (tCt h l n) = tPre h n (l + 1) 0 := by
  unfold tPre
  rw [List.range_succ, List.flatMap_append]
  simp [tRow]
theorem tPre_end (h n : Nat) : tPre h n (tLv h n) 0 = tAll h n := by
  unfold tPre tAll
  simp
theorem pre_range {k n : Nat} (h : k ≤ n) : List.range k <+: List.range n := by
  obtain ⟨d, rfl⟩ : ∃ d, n = k + d := ⟨n - k, by omega⟩
  rw [List.range_add]
  exact List.prefix_append _ _
theorem tPre_pre {h n l i : Nat} (hl : l < tLv h n) (hi : i ≤ tCt h l n) : tPre h n l i <+: tAll h n := by
  have h1 : tPre h n l i <+: tPre h n l (tCt h l n) := by
    obtain ⟨r, hr⟩ := pre_range hi
    unfold tPre
    rw [← hr, List.map_append, ← List.append_assoc]
    exact List.prefix_append _ _
  rw [tPre_row] at h1
  refine h1.trans ?_
  obtain ⟨r, hr⟩ := pre_range (show l + 1 ≤ tLv h n from hl)
  unfold tPre tAll
  rw [← hr, List.flatMap_append]
  simp
theorem tPre_lt {h n l i : Nat} (hl : l < tLv h n) (hi : i < tCt h l n) : (tPre h n l i).length < (tAll h n).length := by
  have := (tPre_pre hl (show i + 1 ≤ tCt h l n from hi)).length_le
  rw [tPre_step, List.length_append] at this
  exact this
/-- Of a beginning of a list the next one. -/
theorem next_of {α : Type} {pre : List α} {x : α} {L : List α} (h : pre ++ [x] <+: L) : L[pre.length]? = some x := by
  obtain ⟨r, hr⟩ := h
  rw [← hr, List.append_assoc, List.getElem?_append_right (Nat.le_refl _), Nat.sub_self]
  rfl
theorem next_pre {α : Type} {pre : List α} {x : α} {L : List α} (hp : pre <+: L) (hx : L[pre.length]? = some x) : pre ++ [x] <+: L := by
  obtain ⟨r, hr⟩ := hp
  rw [← hr, List.getElem?_append_right (Nat.le_refl _), Nat.sub_self] at hx
  cases r with
  | nil => simp at hx
  | cons y r =>
    simp at hx
    subst hx
    exact ⟨r, by rw [← hr]; simp⟩

end Go.Proofs.YtnlpgkfmjlljdabDoor
