/-
  Where a span's parts begin, without a program (the text of Rd, for seats that have no ranges).
-/
import Derived.Test.YtlniffmhihhkcaaDoorPn
namespace Go.Proofs.YtlniffmhihhkcaaDoor
set_option linter.unusedVariables false

theorem mul_div_pow {e L : Nat} (h : 2 ^ L ∣ e) : e / 2 ^ L * 2 ^ L = e := Nat.div_mul_cancel h
/-- How many leaves some nodes have. -/
def psum : List (Nat × Nat) → Nat
  | [] => 0
  | n :: L => 2 ^ n.1 + psum L
theorem psum_lt : ∀ (L : List (Nat × Nat)) (i j : Nat), i < j → j ≤ L.length → psum (L.take i) < psum (L.take j)
  | [], i, j, h, h2 => by simp at h2; omega
  | n :: L, i, 0, h, _ => by omega
  | n :: L, 0, j + 1, _, _ => by
    have := Nat.two_pow_pos n.1
    simp only [List.take_zero, List.take_succ_cons, psum]
    omega
  | n :: L, i + 1, j + 1, h, h2 => by
    simp only [List.take_succ_cons, psum]
    have := psum_lt L i j (by omega) (by simpa using h2)
    omega
theorem psum_succ : ∀ (L : List (Nat × Nat)) (i : Nat) (q : Nat × Nat), L[i]? = some q → psum (L.take (i + 1)) = psum (L.take i) + 2 ^ q.1
  | [], i, q, h => by simp at h
  | n :: L, 0, q, h => by
    simp at h
    subst h
    simp [psum]
  | n :: L, i + 1, q, h => by
    have := psum_succ L i q (by simpa using h)
    simp only [List.take_succ_cons, psum] at this ⊢
    omega
theorem parts_begin (n : Nat) : ∀ (b e : Nat), e - b ≤ n → b ≤ e → e ≤ 2 ^ 48 → (∀ i q, (parts b e)[i]? = some q → q.2 * 2 ^ q.1 = b + psum ((parts b e).take i) ∧ (q.2 + 1) * 2 ^ q.1 ≤ e) ∧ b + psum (parts b e) = e := by
  induction n with
  | zero =>
    intro b e hn hbe hm
    obtain rfl : b = e := by omega
    rw [parts_nil (Nat.le_refl _)]
    exact ⟨fun i q h => by simp at h, rfl⟩
  | succ n ih =>
    intro b e hn hbe hm
    by_cases hlt : b < e
    · have hk := lv_isLev (b := b) (n := e - b) (by omega) (by omega)
      rw [parts_step hk hm]
      generalize lv b (e - b) = k at *
      have hp := Nat.two_pow_pos k
      have hkl := hk.le
      obtain ⟨h1, h2⟩ := ih (b + 2 ^ k) e (by omega) (by omega) hm
      have e1 := mul_div_pow hk.dvd
      refine ⟨?_, by simp only [psum]; omega⟩
      intro i q hq
      cases i with
      | zero =>
        simp at hq
        subst hq
        simp only [List.take_zero, psum]
        refine ⟨by rw [e1, Nat.add_zero], ?_⟩
        rw [Nat.add_mul, e1]
        omega
      | succ i =>
        have := h1 i q (by simpa using hq)
        simp only [List.take_succ_cons, psum]
        omega
    · obtain rfl : b = e := by omega
      rw [parts_nil (Nat.le_refl _)]
      exact ⟨fun i q h => by simp at h, rfl⟩
/-- Where the i-th part begins. -/
def pbeg (b e i : Nat) : Nat := b + psum ((parts b e).take i)
theorem pbeg_zero (b e : Nat) : pbeg b e 0 = b := by simp [pbeg, psum]
theorem pbeg_end {b e : Nat} (hbe : b ≤ e) (hm : e ≤ 2 ^ 48) : pbeg b e (parts b e).length = e := by
  unfold pbeg
  rw [List.take_length]
  exact (parts_begin (e - b) b e (Nat.le_refl _) hbe hm).2
theorem pbeg_at {b e i : Nat} {q : Nat × Nat} (hbe : b ≤ e) (hm : e ≤ 2 ^ 48) (h : (parts b e)[i]? = some q) : q.2 * 2 ^ q.1 = pbeg b e i ∧ pbeg b e (i + 1) = pbeg b e i + 2 ^ q.1 ∧ pbeg b e (i + 1) ≤ e := by
  obtain ⟨h1, h2⟩ := (parts_begin (e - b) b e (Nat.le_refl _) hbe hm).1 i q h
  unfold pbeg at *
  rw [psum_succ _ _ _ h]
  rw [Nat.add_mul] at h2
  omega
theorem pbeg_ne {b e i j : Nat} (h : i ≠ j) (hi : i ≤ (parts b e).length) (hj : j ≤ (parts b e).length) : pbeg b e i ≠ pbeg b e j := by
  unfold pbeg
  rcases Nat.lt_or_gt_of_ne h with h | h
  · have := psum_lt _ _ _ h hj; omega
  · have := psum_lt _ _ _ h hi; omega
theorem parts_drop_aux (n : Nat) : ∀ (b e k : Nat), e - b ≤ n → e ≤ 2 ^ 48 → (parts b e).drop k = parts (pbeg b e k) e := by
  induction n with
  | zero =>
    intro b e k hn hm
    unfold pbeg
    rw [parts_nil (show e ≤ b by omega)]
    simp [psum, parts_nil (show e ≤ b by omega)]
  | succ n ih =>
    intro b e k hn hm
    by_cases hlt : b < e
    · cases k with
      | zero => rw [pbeg_zero]; rfl
      | succ k =>
        have hk := lv_isLev (b := b) (n := e - b) (by omega) (by omega)
        have e1 := parts_step hk hm
        have hp := Nat.two_pow_pos (lv b (e - b))
        have e2 : pbeg b e (k + 1) = pbeg (b + 2 ^ lv b (e - b)) e k := by
          unfold pbeg
          rw [e1]
          simp only [List.take_succ_cons, psum]
          omega
        rw [e1, e2]
        exact ih _ e k (by omega) hm
    · unfold pbeg
      rw [parts_nil (show e ≤ b by omega)]
      simp [psum, parts_nil (show e ≤ b by omega)]
theorem parts_drop (b e k : Nat) (hm : e ≤ 2 ^ 48) : (parts b e).drop k = parts (pbeg b e k) e := parts_drop_aux (e - b) b e k (Nat.le_refl _) hm

end Go.Proofs.YtlniffmhihhkcaaDoor
