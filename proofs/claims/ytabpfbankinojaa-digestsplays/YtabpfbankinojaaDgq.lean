/-
  Runs gone through side by side (pure).
-/
import Derived.Test.YtabpfbankinojaaDgx
namespace Go.Proofs.Ytabpfbankinojaa
open Go.RowKit
set_option linter.unusedVariables false

/-- What is left of the runs is what is left of the whole. -/
structure LS (ls : List (List Ent)) (M : List Ent) : Prop where
  sk : ∀ i, SK kE (ls.getD i [])
  un : ∀ i j, i ≠ j → ∀ a ∈ ls.getD i [], ∀ b ∈ ls.getD j [], kE a ≠ kE b
  sm : SK kE M
  mem : ∀ e, e ∈ M ↔ ∃ i, e ∈ ls.getD i []
/-- All of the runs, rising. -/
def allE (rs : List (List Ent)) : List Ent := srtK kE rs.flatten
theorem getD_lt {α : Type} {l : List α} {i : Nat} (h : i < l.length) (d : α) : l.getD i d = l[i] := by rw [List.getD_eq_getElem?_getD, List.getElem?_eq_getElem h, Option.getD_some]
theorem getD_ge {α : Type} {l : List α} {i : Nat} (h : ¬ i < l.length) (d : α) : l.getD i d = d := by rw [List.getD_eq_getElem?_getD, List.getElem?_eq_none (by omega), Option.getD_none]
theorem mem_getD {rs : List (List Ent)} {e : Ent} : (∃ q ∈ rs, e ∈ q) ↔ ∃ i, e ∈ rs.getD i [] := by
  constructor
  · rintro ⟨q, hq, he⟩
    obtain ⟨i, hi, rfl⟩ := List.getElem_of_mem hq
    exact ⟨i, by rw [getD_lt hi]; exact he⟩
  · rintro ⟨i, he⟩
    by_cases h : i < rs.length
    · rw [getD_lt h] at he
      exact ⟨_, List.getElem_mem h, he⟩
    · rw [getD_ge h] at he
      cases he
theorem unlike_flat : ∀ (rs : List (List Ent)), (∀ q ∈ rs, SK kE q) → (rs.Pairwise fun p q => ∀ a ∈ p, ∀ b ∈ q, kE a ≠ kE b) → rs.flatten.Pairwise fun a b => kE a ≠ kE b
  | [], _, _ => List.Pairwise.nil
  | q :: rs, h1, h2 => by
    have p := List.pairwise_cons.1 h2
    rw [List.flatten_cons]
    refine List.pairwise_append.2 ⟨(h1 q (List.mem_cons_self ..)).imp (fun h => Nat.ne_of_lt h), unlike_flat rs (fun r hr => h1 r (List.mem_cons_of_mem _ hr)) p.2, fun a ha b hb => ?_⟩
    obtain ⟨r, hr, hb⟩ := List.mem_flatten.1 hb
    exact p.1 r hr a ha b hb
theorem RsOk.pwf {rs : List (List Ent)} (h : RsOk rs) : rs.Pairwise fun p q => ∀ a ∈ p, ∀ b ∈ q, kE a ≠ kE b :=
  (List.pairwise_reverse.1 h.ok.2).imp (fun h a ha b hb e => h b hb a ha e.symm)
theorem LS.start {rs : List (List Ent)} (h : RsOk rs) : LS rs (allE rs) := by
  refine ⟨fun i => ?_, fun i j hij a ha b hb => ?_, srtK_SK (unlike_flat rs h.sk h.pwf), fun e => ?_⟩
  · by_cases hi : i < rs.length
    · rw [getD_lt hi]
      exact h.sk _ (List.getElem_mem hi)
    · rw [getD_ge hi]
      exact SK.nil
  · by_cases hi : i < rs.length
    · by_cases hj : j < rs.length
      · rw [getD_lt hi] at ha
        rw [getD_lt hj] at hb
        rcases Nat.lt_or_gt_of_ne hij with h1 | h1
        · exact (List.pairwise_iff_getElem.1 h.pwf) i j hi hj h1 a ha b hb
        · exact fun e => (List.pairwise_iff_getElem.1 h.pwf) j i hj hi h1 b hb a ha e.symm
      · rw [getD_ge hj] at hb
        cases hb
    · rw [getD_ge hi] at ha
      cases ha
  · unfold allE
    rw [srtK_mem, List.mem_flatten, ← mem_getD]
theorem allE_len (rs : List (List Ent)) : (allE rs).length = cnt rs := by
  unfold allE
  rw [srtK_len, List.length_flatten]
  rfl
theorem LS.nil {ls : List (List Ent)} {M : List Ent} (h : LS ls M) (h0 : ∀ i, ls.getD i [] = []) : M = [] := by
  cases M with
  | nil => rfl
  | cons a t =>
    obtain ⟨i, hi⟩ := (h.mem a).1 (List.mem_cons_self ..)
    rw [h0] at hi
    cases hi
theorem LS.step {ls : List (List Ent)} {M : List Ent} (h : LS ls M) {l : Nat} (hl : l < ls.length) {x : Ent} {t : List Ent} (hx : ls.getD l [] = x :: t) (hm : ∀ i y, y ∈ ls.getD i [] → kE x ≤ kE y) : ∃ M', M = x :: M' ∧ LS (ls.set l t) M' := by
  have hxM : x ∈ M := (h.mem x).2 ⟨l, by rw [hx]; exact List.mem_cons_self ..⟩
  cases M with
  | nil => cases hxM
  | cons m M' =>
    have p := List.pairwise_cons.1 h.sm
    have hmx : m = x := by
      rcases List.mem_cons.1 hxM with e | e
      · exact e.symm
      · obtain ⟨i, hi⟩ := (h.mem m).1 (List.mem_cons_self ..)
        have h1 := hm i m hi
        have h2 := p.1 x e
        omega
    subst hmx
    have get : ∀ i, (ls.set l t).getD i [] = if i = l then t else ls.getD i [] := fun i => by
      simp only [List.getD_eq_getElem?_getD, List.getElem?_set]
      by_cases e : l = i
      · subst e
        simp [hl]
      · rw [if_neg e, if_neg (fun h => e h.symm)]
    have sx := h.sk l
    rw [hx] at sx
    have px := List.pairwise_cons.1 sx
    have sub : ∀ i a, a ∈ (ls.set l t).getD i [] → a ∈ ls.getD i [] := fun i a ha => by
      rw [get] at ha
      split at ha
      · rename_i e
        subst e
        rw [hx]
        exact List.mem_cons_of_mem _ ha
      · exact ha
    refine ⟨M', rfl, fun i => ?_, fun i j hij a ha b hb => h.un i j hij a (sub i a ha) b (sub j b hb), p.2, fun e => ⟨fun he => ?_, fun he => ?_⟩⟩
    · rw [get]
      split
      · exact px.2
      · exact h.sk i
    · obtain ⟨i, hi⟩ := (h.mem e).1 (List.mem_cons_of_mem _ he)
      refine ⟨i, ?_⟩
      rw [get]
      split
      · rename_i e2
        subst e2
        rw [hx] at hi
        rcases List.mem_cons.1 hi with e3 | e3
        · subst e3
          have := p.1 e he
          omega
        · exact e3
      · exact hi
    · obtain ⟨i, hi⟩ := he
      have h1 := (h.mem e).2 ⟨i, sub i e hi⟩
      rcases List.mem_cons.1 h1 with e3 | e3
      · subst e3
        exfalso
        rw [get] at hi
        split at hi
        · have := px.1 e hi
          omega
        · rename_i e4
          exact h.un i l e4 e hi e (by rw [hx]; exact List.mem_cons_self ..) rfl
      · exact e3
/-- The least head among the first j. -/
def Lst (ls : List (List Ent)) (j : Nat) (l : Int) : Prop :=
  (l = -1 ∧ ∀ i, i < j → ls.getD i [] = []) ∨ ∃ n x t, l = ((n : Nat) : Int) ∧ n < j ∧ ls.getD n [] = x :: t ∧ ∀ i, i < j → ∀ y s, ls.getD i [] = y :: s → kE x ≤ kE y
theorem Lst.zero (ls : List (List Ent)) : Lst ls 0 (-1) := .inl ⟨rfl, fun i h => absurd h (Nat.not_lt_zero i)⟩
theorem Lst.empty {ls : List (List Ent)} {j : Nat} {l : Int} (h : Lst ls j l) (h0 : ls.getD j [] = []) : Lst ls (j + 1) l := by
  rcases h with ⟨h1, h2⟩ | ⟨n, x, t, h1, h2, h3, h4⟩
  · exact .inl ⟨h1, fun i hi => by
      by_cases e : i = j
      · subst e; exact h0
      · exact h2 i (by omega)⟩
  · exact .inr ⟨n, x, t, h1, by omega, h3, fun i hi y s hy => by
      by_cases e : i = j
      · subst e
        rw [h0] at hy
        cases hy
      · exact h4 i (by omega) y s hy⟩
theorem Lst.first {ls : List (List Ent)} {j : Nat} (h : Lst ls j (-1)) {x : Ent} {t : List Ent} (hx : ls.getD j [] = x :: t) : Lst ls (j + 1) (j : Int) := by
  rcases h with ⟨h1, h2⟩ | ⟨n, x, t, h1, _⟩
  · exact .inr ⟨j, x, t, rfl, by omega, hx, fun i hi y s hy => by
      by_cases e : i = j
      · subst e
        rw [hx] at hy
        injection hy with e1 e2
        subst e1
        exact Nat.le_refl _
      · rw [h2 i (by omega)] at hy
        cases hy⟩
  · omega
theorem Lst.lower {ls : List (List Ent)} {j n : Nat} (h : Lst ls j (n : Int)) {x z : Ent} {t u : List Ent} (hx : ls.getD j [] = x :: t) (hz : ls.getD n [] = z :: u) (hlt : kE x < kE z) : Lst ls (j + 1) (j : Int) := by
  rcases h with ⟨h1, _⟩ | ⟨n', x', t', h1, h2, h3, h4⟩
  · omega
  · obtain rfl : n = n' := by omega
    rw [hz] at h3
    injection h3 with e1 e2
    subst e1
    exact .inr ⟨j, x, t, rfl, by omega, hx, fun i hi y s hy => by
      by_cases e : i = j
      · subst e
        rw [hx] at hy
        injection hy with e1 e2
        subst e1
        exact Nat.le_refl _
      · have := h4 i (by omega) y s hy
        omega⟩
theorem Lst.stay {ls : List (List Ent)} {j n : Nat} (h : Lst ls j (n : Int)) {x z : Ent} {t u : List Ent} (hx : ls.getD j [] = x :: t) (hz : ls.getD n [] = z :: u) (hlt : ¬ kE x < kE z) : Lst ls (j + 1) (n : Int) := by
  rcases h with ⟨h1, _⟩ | ⟨n', x', t', h1, h2, h3, h4⟩
  · omega
  · obtain rfl : n = n' := by omega
    have h3' := h3
    rw [hz] at h3'
    injection h3' with e1 e2
    subst e1
    exact .inr ⟨n, z, t', rfl, by omega, h3, fun i hi y s hy => by
      by_cases e : i = j
      · subst e
        rw [hx] at hy
        injection hy with e1 e2
        subst e1
        omega
      · exact h4 i (by omega) y s hy⟩
theorem Lst.at {ls : List (List Ent)} {j : Nat} {n : Nat} (h : Lst ls j (n : Int)) : n < j ∧ ∃ x t, ls.getD n [] = x :: t := by
  rcases h with ⟨h1, _⟩ | ⟨n', x', t', h1, h2, h3, h4⟩
  · omega
  · obtain rfl : n = n' := by omega
    exact ⟨h2, x', t', h3⟩
theorem Lst.cases {ls : List (List Ent)} {j : Nat} {l : Int} (h : Lst ls j l) : l = -1 ∨ ∃ n : Nat, l = (n : Int) := by
  rcases h with ⟨h1, _⟩ | ⟨n', x', t', h1, _⟩
  · exact .inl h1
  · exact .inr ⟨n', h1⟩
theorem Lst.none {ls : List (List Ent)} (h : Lst ls ls.length (-1)) : ∀ i, ls.getD i [] = [] := fun i => by
  by_cases hi : i < ls.length
  · rcases h with ⟨_, h2⟩ | ⟨n, x, t, h1, _⟩
    · exact h2 i hi
    · omega
  · exact getD_ge hi _
theorem Lst.min {ls : List (List Ent)} {M : List Ent} (hS : LS ls M) {n : Nat} (h : Lst ls ls.length (n : Int)) {x : Ent} {t : List Ent} (hx : ls.getD n [] = x :: t) : ∀ i y, y ∈ ls.getD i [] → kE x ≤ kE y := fun i y hy => by
  by_cases hi : i < ls.length
  · rcases h with ⟨h1, _⟩ | ⟨n', x', t', h1, h2, h3, h4⟩
    · omega
    · obtain rfl : n = n' := by omega
      rw [hx] at h3
      injection h3 with e1 e2
      subst e1
      have hs := hS.sk i
      cases hq : ls.getD i [] with
      | nil =>
        rw [hq] at hy
        cases hy
      | cons z s =>
        have h5 := h4 i hi z s hq
        rw [hq] at hy hs
        rcases List.mem_cons.1 hy with e | e
        · subst e
          exact h5
        · have := (List.pairwise_cons.1 hs).1 y e
          omega
  · rw [getD_ge hi] at hy
    cases hy

end Go.Proofs.Ytabpfbankinojaa
