/-
  The frames that lie in bytes, one behind the other, from the first byte on. No program here but the reading of one.
-/
import Derived.Test.YtbkhlbaamjccjaaDoorFrd
namespace Go.Proofs.YtbkhlbaamjccjaaDoor
open Go.RowKit
set_option linter.unusedVariables false

/-- Where a frame is read: its data lie there, and the place behind it. -/
theorem frR_ok (xs : List Int) (p : Int) (hb : isB xs) (h : (frR xs p).2.2 = 0) : ∃ q n : Nat, p = (q : Int) ∧ q + 8 + n ≤ xs.length ∧ n ≤ 1048576 ∧ frN xs q = (n : Int) ∧ (frD xs q).length = n ∧ frC xs q = frS xs q ∧ frR xs p = (frD xs q, ((q + 8 + n : Nat) : Int), 0) := by
  unfold frR at h ⊢
  by_cases h1 : p < 0 ∨ (xs.length : Int) < p
  · rw [if_pos h1] at h; simp at h
  rw [if_neg h1] at h ⊢
  by_cases h2 : (xs.length : Int) - p < 8
  · rw [if_pos h2] at h; simp at h
  rw [if_neg h2] at h ⊢
  by_cases h3 : 1048576 < frN xs p.toNat
  · rw [if_pos h3] at h; simp at h
  rw [if_neg h3] at h ⊢
  by_cases h4 : (xs.length : Int) - p - 8 < frN xs p.toNat
  · rw [if_pos h4] at h; simp at h
  rw [if_neg h4] at h ⊢
  by_cases h5 : frC xs p.toNat ≠ frS xs p.toNat
  · rw [if_pos h5] at h; simp at h
  rw [if_neg h5]
  obtain ⟨q, rfl⟩ := Int.eq_ofNat_of_zero_le (show 0 ≤ p by omega)
  rw [Int.toNat_natCast] at *
  have bn := hb.at4 q (by omega)
  have bn2 : 0 ≤ frN xs q := bn.1
  obtain ⟨n, hn⟩ := Int.eq_ofNat_of_zero_le bn2
  rw [hn] at h3 h4 ⊢
  refine ⟨q, n, rfl, by omega, by omega, hn, ?_, by simpa using h5, by simp⟩
  unfold frD
  rw [hn, Int.toNat_natCast, List.length_take, List.length_drop]
  omega
/-- The frames of bytes: each with the place behind it and its data; the places; what stopped it. -/
structure Frs (xs : List Int) (L : List (Int × List Int)) (P : Nat → Nat) (E : Int) : Prop where
  p0 : P 0 = 0
  step : ∀ k, k < L.length → P k < xs.length ∧ frR xs (P k : Int) = ((L.getD k (0, [])).2, (P (k + 1) : Int), 0) ∧ (L.getD k (0, [])).1 = (P (k + 1) : Int)
  fin : (P L.length = xs.length ∧ E = 0) ∨ (P L.length < xs.length ∧ E ≠ 0 ∧ (frR xs (P L.length : Int)).2.2 = E)
theorem frs_from (xs : List Int) (hb : isB xs) : ∀ (m p : Nat), xs.length - p ≤ m → p ≤ xs.length → ∃ (L : List (Int × List Int)) (P : Nat → Nat) (E : Int), P 0 = p ∧
    (∀ k, k < L.length → P k < xs.length ∧ frR xs (P k : Int) = ((L.getD k (0, [])).2, (P (k + 1) : Int), 0) ∧ (L.getD k (0, [])).1 = (P (k + 1) : Int)) ∧
    ((P L.length = xs.length ∧ E = 0) ∨ (P L.length < xs.length ∧ E ≠ 0 ∧ (frR xs (P L.length : Int)).2.2 = E)) := by
  intro m
  induction m with
  | zero =>
    intro p h1 h2
    exact ⟨[], fun _ => p, 0, rfl, fun k hk => by simp at hk, .inl ⟨by show p = xs.length; omega, rfl⟩⟩
  | succ m ih =>
    intro p h1 h2
    by_cases hp : p = xs.length
    · exact ⟨[], fun _ => p, 0, rfl, fun k hk => by simp at hk, .inl ⟨hp, rfl⟩⟩
    by_cases he : (frR xs (p : Int)).2.2 = 0
    · obtain ⟨q, n, hq, hle, _, _, _, _, hR⟩ := frR_ok xs p hb he
      obtain rfl : q = p := by omega
      obtain ⟨L, P, E, h3, h4, h5⟩ := ih (q + 8 + n) (by omega) hle
      refine ⟨(((q + 8 + n : Nat) : Int), frD xs q) :: L, fun k => match k with | 0 => q | k + 1 => P k, E, rfl, ?_, h5⟩
      intro k hk
      cases k with
      | zero =>
        refine ⟨by show q < xs.length; omega, ?_, ?_⟩
        · show frR xs (q : Int) = (frD xs q, ((P 0 : Nat) : Int), 0)
          rw [h3, hR]
        · show ((q + 8 + n : Nat) : Int) = ((P 0 : Nat) : Int)
          rw [h3]
      | succ k => exact h4 k (by simpa using hk)
    · exact ⟨[], fun _ => p, _, rfl, fun k hk => by simp at hk, .inr ⟨by show p < xs.length; omega, he, rfl⟩⟩
theorem frs_any (xs : List Int) (hb : isB xs) : ∃ L P E, Frs xs L P E := by
  obtain ⟨L, P, E, h1, h2, h3⟩ := frs_from xs hb xs.length 0 (by omega) (by omega)
  exact ⟨L, P, E, h1, h2, h3⟩
theorem Frs.le {xs : List Int} {L : List (Int × List Int)} {P : Nat → Nat} {E : Int} (h : Frs xs L P E) (hb : isB xs) : ∀ k, k ≤ L.length → P k ≤ xs.length ∧ 8 * k ≤ P k := by
  intro k
  induction k with
  | zero => intro _; rw [h.p0]; omega
  | succ k ih =>
    intro hk
    have h1 := ih (by omega)
    obtain ⟨h2, h3, _⟩ := h.step k (by omega)
    obtain ⟨q, n, hq, hle, _, _, _, _, hR⟩ := frR_ok xs (P k : Int) hb (by rw [h3])
    rw [hR] at h3
    injection h3 with _ h3
    injection h3 with h3 _
    omega
theorem Frs.lt {xs : List Int} {L : List (Int × List Int)} {P : Nat → Nat} {E : Int} (h : Frs xs L P E) (hb : isB xs) (k : Nat) (hk : k < L.length) : P k < P (k + 1) := by
  obtain ⟨h2, h3, _⟩ := h.step k hk
  obtain ⟨q, n, hq, hle, _, _, _, _, hR⟩ := frR_ok xs (P k : Int) hb (by rw [h3])
  rw [hR] at h3
  injection h3 with _ h3
  injection h3 with h3 _
  omega
theorem Frs.few {xs : List Int} {L : List (Int × List Int)} {P : Nat → Nat} {E : Int} (h : Frs xs L P E) (hb : isB xs) : 8 * L.length ≤ xs.length := by
  have := h.le hb L.length (Nat.le_refl _)
  omega
/-- A frame's data. -/
theorem Frs.data {xs : List Int} {L : List (Int × List Int)} {P : Nat → Nat} {E : Int} (h : Frs xs L P E) (hb : isB xs) (k : Nat) (hk : k < L.length) : isB (L.getD k (0, [])).2 ∧ (L.getD k (0, [])).2.length ≤ xs.length := by
  obtain ⟨h2, h3, _⟩ := h.step k hk
  have e : (frR xs (P k : Int)).1 = (L.getD k (0, [])).2 := by rw [h3]
  rw [← e]
  obtain ⟨q, n, hq, hle, _, _, hl, _, hR⟩ := frR_ok xs (P k : Int) hb (by rw [h3])
  rw [hR]
  refine ⟨(hb.drop _).take _, ?_⟩
  show (frD xs q).length ≤ _
  omega

end Go.Proofs.YtbkhlbaamjccjaaDoor
