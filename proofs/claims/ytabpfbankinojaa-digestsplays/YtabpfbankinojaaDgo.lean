/-
  What DigestsOrder keeps (pure).
-/
import Derived.Test.YtabpfbankinojaaDgh
namespace Go.Proofs.Ytabpfbankinojaa
open Go.RowKit
set_option linter.unusedVariables false

/-- A digest's first byte. -/
def fstB (d : List Int) : Int := d.getD 0 0
theorem dat_app_lt {ys d : List Int} {n j : Nat} (hl : ys.length = 32 * n) (hj : j < n) : dat (ys ++ d) j = dat ys j := by
  unfold dat
  rw [List.drop_append_of_le_length (by omega), List.take_append_of_le_length (by rw [List.length_drop]; omega)]
theorem dat_app_at {ys d : List Int} {n : Nat} (hl : ys.length = 32 * n) (hd : d.length = 32) : dat (ys ++ d) n = d := by
  unfold dat
  rw [← hl, List.drop_left, List.take_of_length_le (by omega)]
/-- The index has just these digests. -/
structure OA (rs : List (List Ent)) (ys : List Int) (n : Nat) : Prop where
  cn : cnt rs = n
  of : ∀ q ∈ rs, ∀ e ∈ q, (∃ j, j < n ∧ e.d = dat ys j) ∧ e.p = fstB e.d
  all : ∀ j, j < n → ∃ p, fnd rs (dat ys j) = some p
  ne : ∀ i j, i < j → j < n → dat ys i ≠ dat ys j
  len : ys.length = 32 * n
theorem OA.zero : OA [] [] 0 := ⟨rfl, (fun q h => by cases h), (fun j h => absurd h (Nat.not_lt_zero j)), (fun i j h1 h2 => absurd h2 (Nat.not_lt_zero j)), rfl⟩
theorem fnd_addR {rs : List (List Ent)} {x : Ent} {d : List Int} {p : Int} (h : fnd rs d = some p) : ∃ p, fnd (addR rs x) d = some p := by
  obtain ⟨q, hq, y, hy, h2, _⟩ := fnd_some h
  obtain ⟨q2, hq2, hy2⟩ := (addR_mem rs x y).2 (.inr ⟨q, hq, hy⟩)
  exact fnd_is hq2 hy2 h2
theorem fnd_addR_self (rs : List (List Ent)) (x : Ent) : ∃ p, fnd (addR rs x) x.d = some p := by
  obtain ⟨q2, hq2, hy2⟩ := (addR_mem rs x x).2 (.inl rfl)
  exact fnd_is hq2 hy2 rfl
theorem OA.add {rs : List (List Ent)} {ys : List Int} {n : Nat} (h : OA rs ys n) {x : Ent} (hp : x.p = fstB x.d) (hn : fnd rs x.d = none) : OA (addR rs x) (ys ++ x.d) (n + 1) := by
  refine ⟨by rw [cnt_add, h.cn], fun q hq e he => ?_, fun j hj => ?_, fun i j hij hj => ?_, by rw [List.length_append, h.len, x.hl]; omega⟩
  · rcases (addR_mem rs x e).1 ⟨q, hq, he⟩ with h1 | ⟨q2, h2, h3⟩
    · subst h1
      exact ⟨⟨n, by omega, (dat_app_at h.len e.hl).symm⟩, hp⟩
    · obtain ⟨⟨j, h1, h4⟩, h5⟩ := h.of q2 h2 e h3
      exact ⟨⟨j, by omega, by rw [dat_app_lt h.len h1]; exact h4⟩, h5⟩
  · by_cases e : j = n
    · subst e
      rw [dat_app_at h.len x.hl]
      exact fnd_addR_self rs x
    · rw [dat_app_lt h.len (by omega)]
      obtain ⟨p, h1⟩ := h.all j (by omega)
      exact fnd_addR h1
  · rw [dat_app_lt h.len (show i < n by omega)]
    by_cases e : j = n
    · subst e
      rw [dat_app_at h.len x.hl]
      intro e2
      obtain ⟨p, h1⟩ := h.all i (by omega)
      rw [e2, hn] at h1
      cases h1
    · rw [dat_app_lt h.len (show j < n by omega)]
      exact h.ne i j hij (by omega)
/-- The second index has the first i of them, in another order. -/
structure OB (rs : List (List Ent)) (ys : List Int) (f : Nat → Nat) (i : Nat) : Prop where
  cn : cnt rs = i
  of : ∀ q ∈ rs, ∀ e ∈ q, (∃ j, j < i ∧ e.d = dat ys (f j)) ∧ e.p = fstB e.d
  all : ∀ j, j < i → ∃ p, fnd rs (dat ys (f j)) = some p
theorem OB.zero (ys : List Int) (f : Nat → Nat) : OB [] ys f 0 := ⟨rfl, (fun q h => by cases h), fun j h => absurd h (Nat.not_lt_zero j)⟩
theorem OB.add {rs : List (List Ent)} {ys : List Int} {f : Nat → Nat} {i : Nat} (h : OB rs ys f i) {x : Ent} (hd : x.d = dat ys (f i)) (hp : x.p = fstB x.d) : OB (addR rs x) ys f (i + 1) := by
  refine ⟨by rw [cnt_add, h.cn], fun q hq e he => ?_, fun j hj => ?_⟩
  · rcases (addR_mem rs x e).1 ⟨q, hq, he⟩ with h1 | ⟨q2, h2, h3⟩
    · subst h1
      exact ⟨⟨i, by omega, hd⟩, hp⟩
    · obtain ⟨⟨j, h1, h4⟩, h5⟩ := h.of q2 h2 e h3
      exact ⟨⟨j, by omega, h4⟩, h5⟩
  · by_cases e : j = i
    · subst e
      rw [← hd]
      exact fnd_addR_self rs x
    · obtain ⟨p, h1⟩ := h.all j (by omega)
      exact fnd_addR h1
/-- Turned by r. -/
def kf (r n i : Nat) : Nat := if r + i < n then r + i else r + i - n
theorem kf_lt {r n i : Nat} (hr : r < n) (hi : i < n) : kf r n i < n := by unfold kf; split <;> omega
theorem kf_inj {r n i j : Nat} (hr : r < n) (hi : i < n) (hj : j < n) (h : kf r n i = kf r n j) : i = j := by
  unfold kf at h
  split at h <;> split at h <;> omega
theorem kf_sur {r n j : Nat} (hr : r < n) (hj : j < n) : ∃ i, i < n ∧ kf r n i = j := by
  by_cases h : r ≤ j
  · exact ⟨j - r, by omega, by unfold kf; split <;> omega⟩
  · exact ⟨j + n - r, by omega, by unfold kf; split <;> omega⟩
theorem OB.none {rs rsA : List (List Ent)} {ys : List Int} {r n i : Nat} (hA : OA rsA ys n) (h : OB rs ys (kf r n) i) (hr : r < n) (hi : i < n) : fnd rs (dat ys (kf r n i)) = none := by
  cases hf : fnd rs (dat ys (kf r n i)) with
  | none => rfl
  | some p =>
    obtain ⟨q, hq, e, he, hd, _⟩ := fnd_some hf
    obtain ⟨⟨j, hj, h2⟩, _⟩ := h.of q hq e he
    have h3 : dat ys (kf r n j) = dat ys (kf r n i) := by rw [← h2, hd]
    have h4 := kf_lt hr (show j < n by omega)
    have h5 := kf_lt hr hi
    rcases Nat.lt_trichotomy (kf r n j) (kf r n i) with h6 | h6 | h6
    · exact absurd h3 (hA.ne _ _ h6 h5)
    · have := kf_inj hr (by omega) hi h6
      omega
    · exact absurd h3.symm (hA.ne _ _ h6 h4)
/-- Both have the same entries in the same order. -/
theorem OB.same {rs rsA : List (List Ent)} {ys : List Int} {r n : Nat} (okA : RsOk rsA) (okB : RsOk rs) (hA : OA rsA ys n) (h : OB rs ys (kf r n) n) (hr : n = 0 ∨ r < n) : allE rsA = allE rs := by
  have lA := LS.start okA
  have lB := LS.start okB
  refine SK.ext (key := kE) lA.sm lB.sm fun e => ?_
  rw [lA.mem, lB.mem, ← mem_getD, ← mem_getD]
  constructor
  · rintro ⟨q, hq, he⟩
    obtain ⟨⟨j, hj, hd⟩, hp⟩ := hA.of q hq e he
    obtain ⟨i, hi, hk⟩ := kf_sur (r := r) (n := n) (j := j) (by omega) hj
    obtain ⟨p, hf⟩ := h.all i hi
    obtain ⟨q2, hq2, e2, he2, hd2, _⟩ := fnd_some hf
    obtain ⟨_, hp2⟩ := h.of q2 hq2 e2 he2
    have hde : e.d = e2.d := by rw [hd, hd2, hk]
    exact ⟨q2, hq2, by rw [Ent.same hde (by rw [hp, hp2, hde])]; exact he2⟩
  · rintro ⟨q, hq, he⟩
    obtain ⟨⟨j, hj, hd⟩, hp⟩ := h.of q hq e he
    obtain ⟨p, hf⟩ := hA.all (kf r n j) (kf_lt (by omega) hj)
    obtain ⟨q2, hq2, e2, he2, hd2, _⟩ := fnd_some hf
    obtain ⟨_, hp2⟩ := hA.of q2 hq2 e2 he2
    have hde : e.d = e2.d := by rw [hd, hd2]
    exact ⟨q2, hq2, by rw [Ent.same hde (by rw [hp, hp2, hde])]; exact he2⟩
/-- Where the turned place lies. -/
theorem turn_at (b : Int) (n : Nat) (hn : 0 < n) : ∃ r, r < n ∧ ∀ i, i < n → Int.tmod (Int.tmod b n + n + i) n = (kf r n i : Int) ∧ 0 < Int.tmod b n + n ∧ Int.tmod b n < n := by
  have h1 := Int.tmod_lt_of_pos b (show (0 : Int) < n by omega)
  have h2 : -(n : Int) < Int.tmod b n := by
    have := Int.lt_tmod_of_pos b (show (0 : Int) < n by omega)
    omega
  obtain ⟨t, ht⟩ : ∃ t : Nat, Int.tmod b n + n = (t : Int) := ⟨(Int.tmod b n + n).toNat, by omega⟩
  refine ⟨if t < n then t else t - n, by split <;> omega, fun i hi => ⟨?_, by omega, by omega⟩⟩
  rw [ht, ← Int.natCast_add, ← Int.ofNat_tmod]
  congr 1
  unfold kf
  split
  · split
    · exact Nat.mod_eq_of_lt (by omega)
    · rw [Nat.mod_eq_sub_mod (by omega), Nat.mod_eq_of_lt (by omega)]
  · split
    · rw [Nat.mod_eq_sub_mod (by omega), Nat.mod_eq_of_lt (by omega)]
      omega
    · rw [Nat.mod_eq_sub_mod (by omega), Nat.mod_eq_sub_mod (by omega), Nat.mod_eq_of_lt (by omega)]
      omega

end Go.Proofs.Ytabpfbankinojaa
