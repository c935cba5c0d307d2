/-
  What DigestsRuns keeps (pure).
-/
import Derived.Test.YtabpfbankinojaaDgq
import Derived.Test.YtabpfbankinojaaDgw
import Derived.Test.YtabpfbankinojaaDgd
namespace Go.Proofs.Ytabpfbankinojaa
open Go.RowKit
set_option linter.unusedVariables false

theorem fndR_some {d : List Int} {r : List Ent} {p : Int} (h : fndR d r = some p) : ∃ e ∈ r, e.d = d ∧ e.p = p := by
  unfold fndR at h
  rw [Option.map_eq_some_iff] at h
  obtain ⟨e, he, hp⟩ := h
  have h1 := List.find?_some he
  exact ⟨e, List.mem_of_find?_eq_some he, by simpa using h1, hp⟩
theorem fnd_some {rs : List (List Ent)} {d : List Int} {p : Int} (h : fnd rs d = some p) : ∃ q ∈ rs, ∃ e ∈ q, e.d = d ∧ e.p = p := by
  obtain ⟨q, hq, h2⟩ := List.exists_of_findSome?_eq_some h
  obtain ⟨e, he, h3⟩ := fndR_some h2
  exact ⟨q, hq, e, he, h3⟩
theorem fnd_is {rs : List (List Ent)} {d : List Int} {q : List Ent} {e : Ent} (hq : q ∈ rs) (he : e ∈ q) (hd : e.d = d) : ∃ p, fnd rs d = some p := by
  cases h : fnd rs d with
  | some p => exact ⟨p, rfl⟩
  | none => exact absurd hd (fnd_none h q hq e he)
/-- Two entries of one digest are one. -/
theorem RsOk.uni {rs : List (List Ent)} (h : RsOk rs) {q1 q2 : List Ent} {a b : Ent} (h1 : q1 ∈ rs) (ha : a ∈ q1) (h2 : q2 ∈ rs) (hb : b ∈ q2) (hd : a.d = b.d) : a = b := by
  have hL := LS.start h
  have ma := (hL.mem a).2 (mem_getD.1 ⟨q1, h1, ha⟩)
  have mb := (hL.mem b).2 (mem_getD.1 ⟨q2, h2, hb⟩)
  obtain ⟨i, hi, ei⟩ := List.getElem_of_mem ma
  obtain ⟨j, hj, ej⟩ := List.getElem_of_mem mb
  have hk : kE a = kE b := by unfold kE; rw [hd]
  rcases Nat.lt_trichotomy i j with h3 | h3 | h3
  · have := (List.pairwise_iff_getElem.1 hL.sm) i j hi hj h3
    rw [ei, ej] at this
    omega
  · subst h3
    rw [← ei, ← ej]
  · have := (List.pairwise_iff_getElem.1 hL.sm) j i hj hi h3
    rw [ei, ej] at this
    omega
theorem RsOk.fnd {rs : List (List Ent)} (h : RsOk rs) {q : List Ent} {e : Ent} (hq : q ∈ rs) (he : e ∈ q) : Proofs.Ytabpfbankinojaa.fnd rs e.d = some e.p := by
  obtain ⟨p, hp⟩ := fnd_is hq he rfl
  obtain ⟨q2, hq2, e2, he2, hd, hp2⟩ := fnd_some hp
  rw [hp, ← hp2, h.uni hq2 he2 hq he hd]

/-- The i-th of the digests with its number. -/
structure PL (xs : List Int) (i : Nat) (rs : List (List Ent)) : Prop where
  of : ∀ q ∈ rs, ∀ e ∈ q, ∃ j, j < i ∧ e.d = dat xs j ∧ e.p = (j : Int)
  all : ∀ j, j < i → ∃ p, fnd rs (dat xs j) = some p
theorem PL.zero (xs : List Int) : PL xs 0 [] := ⟨(fun q h => by cases h), fun j h => absurd h (Nat.not_lt_zero j)⟩
theorem PL.there {xs : List Int} {i : Nat} {rs : List (List Ent)} (h : PL xs i rs) {p : Int} (hp : fnd rs (dat xs i) = some p) : PL xs (i + 1) rs :=
  ⟨fun q hq e he => by obtain ⟨j, h1, h2⟩ := h.of q hq e he; exact ⟨j, by omega, h2⟩, fun j hj => by
    by_cases e : j = i
    · subst e; exact ⟨p, hp⟩
    · exact h.all j (by omega)⟩
theorem PL.add {xs : List Int} {i : Nat} {rs : List (List Ent)} (h : PL xs i rs) {x : Ent} (hd : x.d = dat xs i) (hp : x.p = (i : Int)) : PL xs (i + 1) (addR rs x) := by
  refine ⟨fun q hq e he => ?_, fun j hj => ?_⟩
  · rcases (addR_mem rs x e).1 ⟨q, hq, he⟩ with h1 | ⟨q2, h2, h3⟩
    · subst h1
      exact ⟨i, by omega, hd, hp⟩
    · obtain ⟨j, h1, h4⟩ := h.of q2 h2 e h3
      exact ⟨j, by omega, h4⟩
  · by_cases e : j = i
    · subst e
      obtain ⟨q, hq, hx⟩ := (addR_mem rs x x).2 (.inl rfl)
      exact fnd_is hq hx hd
    · obtain ⟨p, h1⟩ := h.all j (by omega)
      obtain ⟨q, hq, y, hy, h2, _⟩ := fnd_some h1
      obtain ⟨q2, hq2, hy2⟩ := (addR_mem rs x y).2 (.inr ⟨q, hq, hy⟩)
      exact fnd_is hq2 hy2 h2
/-- What Find tells of the i-th behind it. -/
theorem PL.find {xs : List Int} {i : Nat} {rs : List (List Ent)} (h : PL xs (i + 1) rs) : ∃ j : Nat, j ≤ i ∧ fnd rs (dat xs i) = some (j : Int) ∧ dat xs j = dat xs i := by
  obtain ⟨p, hp⟩ := h.all i (by omega)
  obtain ⟨q, hq, e, he, hd, h3⟩ := fnd_some hp
  obtain ⟨j, h1, h2, h4⟩ := h.of q hq e he
  exact ⟨j, by omega, by rw [hp, ← h3, h4], by rw [← h2, hd]⟩
theorem PL.pos {xs : List Int} {i : Nat} {rs : List (List Ent)} (h : PL xs i rs) (hi : 0 < i) : 0 < cnt rs := by
  obtain ⟨p, hp⟩ := h.all 0 hi
  obtain ⟨q, hq, e, he, _⟩ := fnd_some hp
  have h1 := cnt_le hq
  have h2 : 0 < q.length := List.length_pos_of_mem he
  omega
/-- The lengths are powers of two, falling. -/
theorem RsOk.lens {rs : List (List Ent)} (h : RsOk rs) : (∀ i, i < rs.length → ∃ k, (Proofs.Ytabpfbankinojaa.lens rs).getD i 0 = 2 ^ k) ∧ ∀ i, i + 1 < rs.length → (Proofs.Ytabpfbankinojaa.lens rs).getD (i + 1) 0 < (Proofs.Ytabpfbankinojaa.lens rs).getD i 0 := by
  have hl : (Proofs.Ytabpfbankinojaa.lens rs).length = rs.length := by simp [Proofs.Ytabpfbankinojaa.lens]
  have hp := h.pw.1
  rw [List.map_reverse] at hp
  have hp2 := List.pairwise_reverse.1 hp
  refine ⟨fun i hi => ?_, fun i hi => ?_⟩
  · rw [getD_lt (by omega)]
    exact h.pw.2 _ (by rw [List.map_reverse, List.mem_reverse]; exact List.getElem_mem (l := Proofs.Ytabpfbankinojaa.lens rs) (by omega))
  · rw [getD_lt (by omega), getD_lt (by omega)]
    exact (List.pairwise_iff_getElem.1 hp2) i (i + 1) (by simpa using (by omega : i < rs.length)) (by simpa using hi) (by omega)

end Go.Proofs.Ytabpfbankinojaa
