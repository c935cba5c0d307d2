/-
  Frames one behind the other, and what is read at their places in any beginning of them. No program here but the reading of one.
-/
import Derived.Test.YtbkhlbaamjccjaaDoorFpt
import Derived.Test.YtbkhlbaamjccjaaDoorFfr
namespace Go.Proofs.YtbkhlbaamjccjaaDoor
open Go.RowKit
set_option linter.unusedVariables false

theorem be4_val (v : Int) (h0 : 0 ≤ v) (h1 : v < 4294967296) : beVal (be v 4) = v := by
  have e : be v 4 = [v / 256 ^ 3 % 256, v / 256 ^ 2 % 256, v / 256 ^ 1 % 256, v / 256 ^ 0 % 256] := rfl
  rw [e]
  simp only [beVal, List.foldl]
  omega
/-- The parts of a frame. -/
theorem fmB_head (ys : List Int) : (fmB ys).take 4 = be (ys.length : Int) 4 := by
  unfold fmB
  rw [List.append_assoc, List.take_append_of_le_length (by rw [be_length]; exact Nat.le_refl _), List.take_of_length_le (by rw [be_length]; exact Nat.le_refl _)]
theorem fmB_sum (ys : List Int) : ((fmB ys).drop 4).take 4 = be (fmC ys : Int) 4 := by
  unfold fmB
  rw [List.append_assoc, List.drop_append_of_le_length (by rw [be_length]; exact Nat.le_refl _), List.drop_of_length_le (by rw [be_length]; exact Nat.le_refl _), List.nil_append, List.take_append_of_le_length (by rw [be_length]; exact Nat.le_refl _), List.take_of_length_le (by rw [be_length]; exact Nat.le_refl _)]
theorem fmB_data (ys : List Int) : (fmB ys).drop 8 = ys := by
  unfold fmB
  rw [List.drop_append_of_le_length (by simp [be_length]), List.drop_of_length_le (by simp [be_length]), List.nil_append]
/-- Frames, one behind the other; how many bytes the first ones have. -/
def fmA (ps : List (List Int)) : List Int := (ps.map fmB).flatten
def qL (ps : List (List Int)) (j : Nat) : Nat := (fmA (ps.take j)).length
theorem qL_0 (ps : List (List Int)) : qL ps 0 = 0 := rfl
theorem fmA_succ (ps : List (List Int)) (j : Nat) (h : j < ps.length) : fmA (ps.take (j + 1)) = fmA (ps.take j) ++ fmB (ps.getD j []) := by
  rw [List.take_succ_eq_append_getElem h]
  unfold fmA
  rw [List.map_append, List.flatten_append]
  congr 1
  simp [List.getD, h]
theorem qL_succ (ps : List (List Int)) (j : Nat) (h : j < ps.length) : qL ps (j + 1) = qL ps j + (8 + (ps.getD j []).length) := by
  unfold qL
  rw [fmA_succ ps j h, List.length_append, fmB_length]
theorem fmA_isB (ps : List (List Int)) (h : ∀ p ∈ ps, isB p) : isB (fmA ps) := by
  intro x hx
  obtain ⟨l, hl, hxl⟩ := List.mem_flatten.1 hx
  obtain ⟨p, hp, rfl⟩ := List.mem_map.1 hl
  exact fmB_isB p (h p hp) x hxl
theorem fmA_all (ps : List (List Int)) : (fmA ps).length = qL ps ps.length := by unfold qL; rw [List.take_length]
theorem fmA_len (ps : List (List Int)) : (fmA ps).length = 8 * ps.length + ps.flatten.length := by
  induction ps with
  | nil => rfl
  | cons p ps ih =>
    have e : fmA (p :: ps) = fmB p ++ fmA ps := by simp [fmA]
    rw [e, List.length_append, fmB_length, ih]
    simp
    omega
theorem fmA_split (ps : List (List Int)) (j : Nat) (h : j < ps.length) : fmA ps = fmA (ps.take j) ++ (fmB (ps.getD j []) ++ fmA (ps.drop (j + 1))) := by
  have e : ps = ps.take (j + 1) ++ ps.drop (j + 1) := (List.take_append_drop _ _).symm
  have e2 : fmA ps = fmA (ps.take (j + 1)) ++ fmA (ps.drop (j + 1)) := by
    conv => lhs; rw [e]
    simp only [fmA, List.map_append, List.flatten_append]
  rw [e2, fmA_succ ps j h, List.append_assoc]
theorem fmA_rest (ps : List (List Int)) (c j : Nat) (h : j < ps.length) : ((fmA ps).take c).drop (qL ps j) = (fmB (ps.getD j []) ++ fmA (ps.drop (j + 1))).take (c - qL ps j) := by
  rw [List.drop_take]
  congr 1
  rw [fmA_split ps j h]
  unfold qL
  rw [List.drop_append_of_le_length (Nat.le_refl _), List.drop_length, List.nil_append]
/-- A frame that lies there whole. -/
theorem frR_whole (xs : List Int) (p m : Nat) (y C : List Int) (hx : xs.drop p = (fmB y ++ C).take m) (hl : xs.length = p + m) (hy : y.length ≤ 1048576) (hm : 8 + y.length ≤ m) : frR xs (p : Int) = (y, ((p + (8 + y.length) : Nat) : Int), 0) := by
  have hfl := fmB_length y
  have e0 : (fmB y ++ C).take m = fmB y ++ C.take (m - (8 + y.length)) := by
    rw [List.take_append, hfl, List.take_of_length_le (by rw [hfl]; exact hm)]
  rw [e0] at hx
  have eN : frN xs p = (y.length : Int) := by
    unfold frN
    rw [hx, List.take_append_of_le_length (by rw [hfl]; omega), fmB_head, be4_val _ (by omega) (by omega)]
  have eS : frS xs p = (fmC y : Int) := by
    unfold frS
    rw [← List.drop_drop, hx, List.drop_append_of_le_length (by rw [hfl]; omega), List.take_append_of_le_length (by rw [List.length_drop, hfl]; omega), fmB_sum, be4_val _ (by omega) (by have := fmC_lt y; omega)]
  have eD : frD xs p = y := by
    unfold frD
    rw [eN, Int.toNat_natCast, ← List.drop_drop, hx, List.drop_append_of_le_length (by rw [hfl]; omega), fmB_data, List.take_append_of_le_length (Nat.le_refl _), List.take_length]
  have eC' : frC xs p = (fmC y : Int) := by
    unfold frC
    rw [eD, hx, List.take_append_of_le_length (by rw [hfl]; omega), fmB_head]
    rfl
  unfold frR
  rw [Int.toNat_natCast, eN, eS, eC', eD, if_neg (by omega), if_neg (by omega), if_neg (by omega), if_neg (by omega), if_neg (by simp)]
  simp
  omega
/-- A frame that is torn. -/
theorem frR_torn (xs : List Int) (p m : Nat) (y C : List Int) (hx : xs.drop p = (fmB y ++ C).take m) (hl : xs.length = p + m) (hy : y.length ≤ 1048576) (hm : m < 8 + y.length) : frR xs (p : Int) = ([], 0, 111) := by
  have hfl := fmB_length y
  unfold frR
  rw [if_neg (by omega)]
  by_cases h8 : m < 8
  · rw [if_pos (by omega)]
  rw [if_neg (by omega)]
  have eN : frN xs p = (y.length : Int) := by
    unfold frN
    rw [hx, List.take_take, Nat.min_eq_left (by omega), List.take_append_of_le_length (by rw [hfl]; omega), fmB_head, be4_val _ (by omega) (by omega)]
  rw [Int.toNat_natCast, eN, if_neg (by omega), if_pos (by omega)]
theorem qL_mono (ps : List (List Int)) (j k : Nat) (h : j ≤ k) (hk : k ≤ ps.length) : qL ps j ≤ qL ps k := by
  induction k with
  | zero => obtain rfl : j = 0 := by omega
            exact Nat.le_refl _
  | succ k ih =>
    by_cases e : j = k + 1
    · subst e; exact Nat.le_refl _
    · have := ih (by omega) (by omega)
      have := qL_succ ps k (by omega)
      omega
theorem qL_most (ps : List (List Int)) (c : Nat) : ∀ m, m ≤ ps.length → ∃ K, K ≤ m ∧ qL ps K ≤ c ∧ (K = m ∨ c < qL ps (K + 1)) := by
  intro m
  induction m with
  | zero => intro _; exact ⟨0, Nat.le_refl _, Nat.zero_le _, .inl rfl⟩
  | succ m ih =>
    intro hm
    obtain ⟨K, h1, h2, h3⟩ := ih (by omega)
    by_cases hc : qL ps (m + 1) ≤ c
    · exact ⟨m + 1, Nat.le_refl _, hc, .inl rfl⟩
    · rcases h3 with rfl | h3
      · exact ⟨K, by omega, h2, .inr (by omega)⟩
      · exact ⟨K, by omega, h2, .inr h3⟩
/-- The first frames, with the places behind them. -/
def fxL (ps : List (List Int)) (K : Nat) : List (Int × List Int) := (List.range K).map fun j => ((qL ps (j + 1) : Int), ps.getD j [])
theorem fxL_length (ps : List (List Int)) (K : Nat) : (fxL ps K).length = K := by simp [fxL]
theorem fxL_get (ps : List (List Int)) (K j : Nat) (h : j < K) : (fxL ps K).getD j (0, []) = ((qL ps (j + 1) : Int), ps.getD j []) := by simp [fxL, List.getD, h]
/-- Of any beginning of frames those are told that lie in it whole. -/
theorem frs_cut (ps : List (List Int)) (c : Nat) (hc : c ≤ (fmA ps).length) (hy : ∀ j, j < ps.length → (ps.getD j []).length ≤ 1048576) :
    ∃ K E, K ≤ ps.length ∧ qL ps K ≤ c ∧ (K = ps.length ∨ c < qL ps (K + 1)) ∧ Frs ((fmA ps).take c) (fxL ps K) (qL ps) E ∧ ((qL ps K = c ∧ E = 0) ∨ (qL ps K < c ∧ E = 111)) := by
  obtain ⟨K, h1, h2, h3⟩ := qL_most ps c ps.length (Nat.le_refl _)
  have hl : ((fmA ps).take c).length = c := by rw [List.length_take]; omega
  have hfin : (qL ps K = c ∧ (0 : Int) = 0) ∨ (qL ps K < c ∧ (frR ((fmA ps).take c) (qL ps K : Int)).2.2 = 111) := by
    by_cases e : qL ps K = c
    · exact .inl ⟨e, rfl⟩
    · have hK : K < ps.length := by
        rcases h3 with rfl | h3
        · rw [fmA_all] at hc; omega
        · by_cases hk : K = ps.length
          · subst hk; rw [fmA_all] at hc; omega
          · omega
      have h4 : c < qL ps (K + 1) := by
        rcases h3 with rfl | h3
        · omega
        · exact h3
      rw [qL_succ ps K hK] at h4
      refine .inr ⟨by omega, ?_⟩
      rw [frR_torn _ (qL ps K) (c - qL ps K) (ps.getD K []) _ (fmA_rest ps c K hK) (by rw [hl]; omega) (hy K hK) (by omega)]
  have hstep : ∀ k, k < (fxL ps K).length → qL ps k < ((fmA ps).take c).length ∧ frR ((fmA ps).take c) (qL ps k : Int) = (((fxL ps K).getD k (0, [])).2, (qL ps (k + 1) : Int), 0) ∧ ((fxL ps K).getD k (0, [])).1 = (qL ps (k + 1) : Int) := by
    intro k hk
    rw [fxL_length] at hk
    have hs := qL_succ ps k (by omega)
    have hm := qL_mono ps (k + 1) K (by omega) h1
    rw [fxL_get ps K k hk, hl]
    refine ⟨by omega, ?_, rfl⟩
    rw [frR_whole _ (qL ps k) (c - qL ps k) (ps.getD k []) _ (fmA_rest ps c k (by omega)) (by rw [hl]; omega) (hy k (by omega)) (by omega), ← hs]
  rcases hfin with ⟨e, _⟩ | ⟨e, he⟩
  · exact ⟨K, 0, h1, h2, h3, ⟨qL_0 ps, hstep, .inl ⟨by rw [fxL_length, hl]; exact e, rfl⟩⟩, .inl ⟨e, rfl⟩⟩
  · exact ⟨K, 111, h1, h2, h3, ⟨qL_0 ps, hstep, .inr ⟨by rw [fxL_length, hl]; exact e, by decide, by rw [fxL_length]; exact he⟩⟩, .inr ⟨e, rfl⟩⟩

end Go.Proofs.YtbkhlbaamjccjaaDoor
