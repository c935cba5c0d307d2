/-
  An addition, as the document tells it (pure).
-/
import Derived.Test.YtabpfbankinojaaDgh
namespace Go.Proofs.Ytabpfbankinojaa
open Go.RowKit
set_option linter.unusedVariables false

theorem allE_mem {rs : List (List Ent)} (h : RsOk rs) (e : Ent) : e ∈ allE rs ↔ ∃ q ∈ rs, e ∈ q := by
  rw [(LS.start h).mem e, mem_getD]
/-- What is found in the whole is what is found in the runs. -/
theorem fnd_allE {rs : List (List Ent)} (h : RsOk rs) (d : List Int) : fndR d (allE rs) = fnd rs d := by
  cases hf : fnd rs d with
  | none =>
    cases hg : fndR d (allE rs) with
    | none => rfl
    | some p =>
      obtain ⟨e, he, hd, _⟩ := fndR_some hg
      obtain ⟨q, hq, heq⟩ := (allE_mem h e).1 he
      exact absurd hd (fnd_none hf q hq e heq)
  | some p =>
    obtain ⟨q, hq, e, he, hd, hp⟩ := fnd_some hf
    have hm := (allE_mem h e).2 ⟨q, hq, he⟩
    cases hg : fndR d (allE rs) with
    | none =>
      unfold fndR at hg
      rw [Option.map_eq_none_iff, List.find?_eq_none] at hg
      exact absurd (hg e hm) (by simp [hd])
    | some p2 =>
      obtain ⟨e2, he2, hd2, hp2⟩ := fndR_some hg
      obtain ⟨q2, hq2, heq2⟩ := (allE_mem h e2).1 he2
      have := h.uni hq he hq2 heq2 (by rw [hd, hd2])
      subst this
      rw [← hp, hp2]
theorem allE_add {rs : List (List Ent)} {x : Ent} (h : RsOk rs) (hn : fnd rs x.d = none) : allE (addR rs x) = insK kE x (allE rs) := by
  refine SK.ext (key := kE) (LS.start (h.add hn)).sm (insK_SK x (LS.start h).sm (fun y hy e => ?_)) (fun e => ?_)
  · obtain ⟨q, hq, he⟩ := (allE_mem h y).1 hy
    exact fnd_none hn q hq y he (kE_d e)
  · rw [allE_mem (h.add hn), insK_mem, allE_mem h, addR_mem]
theorem lens_add (rs : List (List Ent)) (x : Ent) : lens (addR rs x) = (pushN (lens rs).reverse 1).reverse := by
  unfold lens addR
  rw [List.map_reverse, pushL_len, List.map_reverse]
  rfl
/-- Midway while the runs' lengths are merged. -/
structure PN (r0 t : List Nat) (m : Nat) : Prop where
  eq : pushN t m = pushN r0 1
  sum : m + t.sum = 1 + r0.sum
theorem PN.start (r0 : List Nat) : PN r0 r0 1 := ⟨rfl, rfl⟩
theorem PN.step {r0 t : List Nat} {h m : Nat} (k : PN r0 (h :: t) m) (e : h = m) : PN r0 t (2 * m) := by
  obtain ⟨h1, h2⟩ := k
  rw [List.sum_cons] at h2
  refine ⟨?_, by omega⟩
  rw [← h1]
  conv => rhs; unfold pushN
  rw [if_pos e]
theorem PN.end0 {r0 : List Nat} {m : Nat} (k : PN r0 [] m) : (pushN r0 1).reverse = [m] := by rw [← k.eq]; rfl
theorem PN.end1 {r0 t : List Nat} {h m : Nat} (k : PN r0 (h :: t) m) (e : h ≠ m) : (pushN r0 1).reverse = (h :: t).reverse ++ [m] := by
  rw [← k.eq]
  unfold pushN
  rw [if_neg e, List.reverse_cons]
/-- Where the first unlike byte lies. -/
theorem less_at {a b : List Int} {i : Nat} (ha : isB a) (hb : isB b) (la : a.length = 32) (lb : b.length = 32) (hi : i < 32) (ht : a.take i = b.take i) (hne : a.getD i 0 ≠ b.getD i 0) : decide (a.getD i 0 < b.getD i 0) = decide (kD a < kD b) := by
  rw [decide_eq_decide]
  constructor
  · intro h
    exact kD_first ha hb (by omega) (by omega) ht h
  · intro h
    rcases Int.lt_trichotomy (a.getD i 0) (b.getD i 0) with h1 | h1 | h1
    · exact h1
    · exact absurd h1 hne
    · have := kD_first hb ha (by omega) (by omega) ht.symm h1
      omega
theorem take_more {a b : List Int} {i : Nat} (la : a.length = 32) (lb : b.length = 32) (hi : i < 32) (ht : a.take i = b.take i) (he : a.getD i 0 = b.getD i 0) : a.take (i + 1) = b.take (i + 1) := by
  rw [List.take_succ_eq_append_getElem (by omega), List.take_succ_eq_append_getElem (by omega), ht]
  rw [List.getD_eq_getElem?_getD, List.getD_eq_getElem?_getD, List.getElem?_eq_getElem (by omega), List.getElem?_eq_getElem (by omega)] at he
  simp only [Option.getD_some] at he
  rw [he]
theorem fndR_more {L : List Ent} {d : List Int} {i : Nat} (hi : i < L.length) (h : fndR d (L.take i) = none) (hne : L[i].d ≠ d) : fndR d (L.take (i + 1)) = none := by
  unfold fndR at *
  rw [Option.map_eq_none_iff] at *
  rw [List.take_succ_eq_append_getElem hi, List.find?_append, h]
  simp [hne]
theorem fndR_hit {L : List Ent} {d : List Int} {i : Nat} (hi : i < L.length) (h : fndR d (L.take i) = none) (he : L[i].d = d) : fndR d L = some L[i].p := by
  unfold fndR at *
  rw [Option.map_eq_none_iff] at h
  have e : L = L.take i ++ L[i] :: L.drop (i + 1) := by
    rw [← List.drop_eq_getElem_cons hi, List.take_append_drop]
  have h2 : L.find? (fun x => decide (x.d = d)) = some L[i] := by
    conv => lhs; rw [e]
    rw [List.find?_append, h, Option.none_or, List.find?_cons_of_pos (by simpa using he)]
  rw [h2]
  rfl

end Go.Proofs.Ytabpfbankinojaa
