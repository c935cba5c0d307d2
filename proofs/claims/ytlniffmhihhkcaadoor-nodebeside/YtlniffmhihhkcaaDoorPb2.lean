/-
  How a span's parts stand beside one another: their levels rise, then fall. No program here.
-/
import Derived.Test.YtlniffmhihhkcaaDoorPo
namespace Go.Proofs.YtlniffmhihhkcaaDoor
open Go.RowKit
set_option linter.unusedVariables false

theorem lev_at {b e k : Nat} (he : e ≤ 281474976710656) (h : k < (parts b e).length) : IsLev (pbeg b e k) (e - pbeg b e k) (nG b e k).1 ∧ pbeg b e k < e := by
  have hd := parts_drop b e k he
  have hne : parts (pbeg b e k) e ≠ [] := by
    rw [← hd]
    intro h0
    have := congrArg List.length h0
    rw [List.length_drop] at this
    simp at this
    omega
  have hlt : pbeg b e k < e := by
    apply Nat.lt_of_not_le
    intro hle
    exact hne (parts_nil hle)
  have hl := lv_isLev (b := pbeg b e k) (n := e - pbeg b e k) (by omega) (Nat.le_trans (Nat.sub_le _ _) he)
  have h0 : (parts (pbeg b e k) e)[0]? = some (nG b e k) := by
    rw [← hd, List.getElem?_drop]
    exact nG_get h
  rw [parts_step hl he] at h0
  simp only [List.getElem?_cons_zero, Option.some.injEq] at h0
  rw [← h0]
  exact ⟨hl, hlt⟩
/-- It is no right half. -/
def HSp (b e k : Nat) : Prop := 2 ^ ((nG b e k).1 + 1) ∣ pbeg b e k
theorem hs_next {b e k : Nat} (hbe : b ≤ e) (he : e ≤ 281474976710656) (h : k + 1 < (parts b e).length) (hs : HSp b e k) : (nG b e (k + 1)).1 < (nG b e k).1 ∧ HSp b e (k + 1) := by
  obtain ⟨l1, _⟩ := lev_at he (show k < (parts b e).length by omega)
  obtain ⟨l2, hlt⟩ := lev_at he h
  obtain ⟨h1, h2, h3⟩ := pbeg_at hbe he (nG_get (show k < (parts b e).length by omega))
  unfold HSp at hs ⊢
  rw [h2] at l2 hlt ⊢
  generalize (nG b e (k + 1)).1 = j' at *
  generalize (nG b e k).1 = j at *
  generalize pbeg b e k = s at *
  have hp := Nat.two_pow_pos j
  have ht : e - s < 2 ^ (j + 1) := by
    apply Nat.lt_of_not_le
    intro hl
    exact l1.top ⟨hs, hl⟩
  have hj : j' < j := by
    apply Nat.lt_of_not_le
    intro hl
    have := pow_le_le l2.le hl
    rw [Nat.pow_succ] at ht
    omega
  exact ⟨hj, Nat.dvd_add (pow_dvd_le l1.dvd hj) (Nat.pow_dvd_pow 2 hj)⟩
theorem nhs_next {b e k : Nat} (hbe : b ≤ e) (he : e ≤ 281474976710656) (h : k + 1 < (parts b e).length) (hs : ¬ HSp b e k) : 2 ^ ((nG b e k).1 + 1) ∣ pbeg b e (k + 1) := by
  obtain ⟨l1, _⟩ := lev_at he (show k < (parts b e).length by omega)
  obtain ⟨h1, h2, h3⟩ := pbeg_at hbe he (nG_get (show k < (parts b e).length by omega))
  unfold HSp at hs
  rw [h2]
  generalize (nG b e k).1 = j at *
  generalize pbeg b e k = s at *
  obtain ⟨c, hc⟩ := l1.dvd
  have hco : c % 2 = 1 := by
    apply Classical.byContradiction
    intro h
    exact hs ⟨c / 2, by rw [hc, Nat.pow_succ, Nat.mul_assoc]; congr 1; omega⟩
  refine ⟨(c + 1) / 2, ?_⟩
  rw [hc, Nat.pow_succ, Nat.mul_assoc, ← Nat.mul_succ]
  congr 1
  omega
theorem le_hs {b e k : Nat} (hbe : b ≤ e) (he : e ≤ 281474976710656) (h : k + 1 < (parts b e).length) (hl : (nG b e (k + 1)).1 ≤ (nG b e k).1) : HSp b e (k + 1) := by
  by_cases hs : HSp b e k
  · exact (hs_next hbe he h hs).2
  · exact pow_dvd_le (nhs_next hbe he h hs) (by omega)
theorem eq_even {b e k : Nat} (hbe : b ≤ e) (he : e ≤ 281474976710656) (h : k + 1 < (parts b e).length) (hl : (nG b e (k + 1)).1 = (nG b e k).1) : (nG b e (k + 1)).2 % 2 = 0 := by
  have hs := le_hs hbe he h (Nat.le_of_eq hl)
  obtain ⟨h1, _, _⟩ := pbeg_at hbe he (nG_get h)
  unfold HSp at hs
  rw [← h1] at hs
  generalize (nG b e (k + 1)).1 = j at *
  generalize (nG b e (k + 1)).2 = i at *
  rw [Nat.pow_succ, Nat.mul_comm (2 ^ j) 2] at hs
  have := Nat.dvd_of_mul_dvd_mul_right (Nat.two_pow_pos j) hs
  omega

/-- At most 96. -/
theorem parts_pos (n : Nat) : ∀ (k b e : Nat), k + n = 48 → 2 ^ k ∣ b → 0 < b → e ≤ 2 ^ 48 → (parts b e).length ≤ n + 48 := by
  induction n using Nat.strongRecOn with
  | ind n ih =>
    intro k b e hkn hd hb0 hm
    by_cases hlt : b < e
    · have hj := lv_isLev (b := b) (n := e - b) (by omega) (by omega)
      rw [parts_step hj hm]
      generalize lv b (e - b) = j at *
      have hj47 : j ≤ 47 := by
        apply Nat.le_of_not_lt
        intro hl
        have h1 := pow_le_le hj.le (show 48 ≤ j from hl)
        omega
      have hjl := hj.le
      rw [List.length_cons]
      by_cases hs : 2 ^ (j + 1) ∣ b
      · have ht : e < b + 2 ^ (j + 1) := by
          apply Nat.lt_of_not_le
          intro h
          exact hj.top ⟨hs, by omega⟩
        have e2 : b + 2 ^ (j + 1) = b + 2 ^ j + 2 ^ j := by rw [Nat.pow_succ]; omega
        have := parts_fall j (b + 2 ^ j) e (Nat.dvd_add hj.dvd (Nat.dvd_refl _)) (by omega) hm
        omega
      · have hkj : k ≤ j := by
          apply Nat.le_of_not_lt
          intro hl
          exact hs (pow_dvd_le hd hl)
        have hd2 : 2 ^ (j + 1) ∣ b + 2 ^ j := by
          obtain ⟨c, hc⟩ := hj.dvd
          have hco : c % 2 = 1 := by
            apply Classical.byContradiction
            intro h
            exact hs ⟨c / 2, by rw [hc, Nat.pow_succ, Nat.mul_assoc]; congr 1; omega⟩
          refine ⟨(c + 1) / 2, ?_⟩
          rw [hc, Nat.pow_succ, Nat.mul_assoc, ← Nat.mul_succ]
          congr 1
          omega
        have := ih (48 - (j + 1)) (by omega) (j + 1) (b + 2 ^ j) e (by omega) hd2 (by omega) hm
        omega
    · rw [parts_nil (by omega)]; simp
theorem parts_96 (b e : Nat) (h : e ≤ 2 ^ 48) : (parts b e).length ≤ 96 := by
  by_cases hb : b = 0
  · subst hb
    by_cases hlt : 0 < e
    · have hj := lv_isLev (b := 0) (n := e - 0) (by omega) (by omega)
      rw [parts_step hj h]
      generalize lv 0 (e - 0) = j at *
      have hj48 := lev_le hj (by omega)
      have ht : e < 0 + 2 ^ (j + 1) := by
        apply Nat.lt_of_not_le
        intro hl
        exact hj.top ⟨Nat.dvd_zero _, by omega⟩
      have e2 : 0 + 2 ^ (j + 1) = 0 + 2 ^ j + 2 ^ j := by rw [Nat.pow_succ]; omega
      have := parts_fall j (0 + 2 ^ j) e (by rw [Nat.zero_add]; exact Nat.dvd_refl _) (by omega) h
      rw [List.length_cons]
      omega
    · rw [parts_nil (by omega)]; simp
  · exact parts_pos 48 0 b e rfl (by simp) (by omega) h
/-- A part's node may be, and has the leaves from where it begins. -/
theorem part_node {b e k : Nat} (hbe : b ≤ e) (he : e ≤ 281474976710656) (h : k < (parts b e).length) : (nG b e k).1 ≤ 48 ∧ ((nG b e k).2 : Int) < 281474976710656 / 2 ^ (nG b e k).1 ∧ (nG b e k).2 * 2 ^ (nG b e k).1 = pbeg b e k ∧ ((nG b e k).2 + 1) * 2 ^ (nG b e k).1 = pbeg b e (k + 1) ∧ pbeg b e (k + 1) ≤ e := by
  obtain ⟨l1, _⟩ := lev_at he h
  obtain ⟨h1, h2, h3⟩ := pbeg_at hbe he (nG_get h)
  have hl48 := lev_le l1 (Nat.le_trans (Nat.sub_le _ _) he)
  refine ⟨hl48, ?_, h1, by rw [Nat.add_mul, Nat.one_mul, h1, h2], h3⟩
  have hp := Nat.two_pow_pos (nG b e k).1
  have h4 : (nG b e k).2 < 281474976710656 / 2 ^ (nG b e k).1 := by
    rw [Nat.lt_div_iff_mul_lt hp]
    rw [h2] at h3
    omega
  have h5 : ((281474976710656 / 2 ^ (nG b e k).1 : Nat) : Int) = 281474976710656 / 2 ^ (nG b e k).1 := by rw [Int.natCast_ediv, Int.natCast_pow]; rfl
  rw [← h5]
  omega

end Go.Proofs.YtlniffmhihhkcaaDoor
