/-
  The greatest power of two below a number. No program here.
-/
import Derived.Test.YtlgcjdgcgnlcaaaGreatDoorPlain
import Derived.Lib.BitFns
namespace Go.Proofs.YtlgcjdgcgnlcaaaGreatDoor
open Go.RowKit
set_option linter.unusedVariables false

/-- A number above nought lies between two powers of two. -/
theorem bitLen_pow : ∀ (m x : Nat), x ≤ m → 0 < x → x < 2 ^ 64 → 0 < Lib.bitLen x ∧ 2 ^ (Lib.bitLen x - 1) ≤ x ∧ x < 2 ^ Lib.bitLen x
  | 0, x, h, h0, _ => by omega
  | m + 1, x, h, h0, hx => by
    rw [Lib.bitLen_half x (by omega) hx]
    by_cases h1 : x = 1
    · subst h1; decide
    · have ih := bitLen_pow m (x / 2) (by omega) (by omega) (by omega)
      obtain ⟨i1, i2, i3⟩ := ih
      have e1 : 1 + Lib.bitLen (x / 2) - 1 = (Lib.bitLen (x / 2) - 1) + 1 := by omega
      have e2 : 1 + Lib.bitLen (x / 2) = Lib.bitLen (x / 2) + 1 := by omega
      rw [e1, e2, Nat.pow_succ, Nat.pow_succ]
      omega

/-- The greatest power of two below n. -/
def hf (n : Nat) : Nat := 2 ^ (Lib.bitLen (n - 1) - 1)

theorem hf_bd (n : Nat) (h : 2 ≤ n) (hn : n < 2 ^ 64) : 1 ≤ hf n ∧ hf n < n ∧ n ≤ 2 * hf n := by
  obtain ⟨h1, h2, h3⟩ := bitLen_pow (n - 1) (n - 1) (Nat.le_refl _) (by omega) (by omega)
  have e : 2 ^ Lib.bitLen (n - 1) = 2 * 2 ^ (Lib.bitLen (n - 1) - 1) := by
    rw [show Lib.bitLen (n - 1) = (Lib.bitLen (n - 1) - 1) + 1 by omega, Nat.pow_succ]
    simp
    omega
  unfold hf
  have := Nat.two_pow_pos (Lib.bitLen (n - 1) - 1)
  omega

theorem hf_uniq (n j : Nat) (h : 2 ≤ n) (hn : n < 2 ^ 64) (h1 : 2 ^ j < n) (h2 : n ≤ 2 * 2 ^ j) : hf n = 2 ^ j := by
  obtain ⟨_, h3, h4⟩ := hf_bd n h hn
  unfold hf at h3 h4 ⊢
  generalize Lib.bitLen (n - 1) - 1 = a at *
  have : a = j := by
    rcases Nat.lt_trichotomy a j with hlt | e | hlt
    · have := Nat.pow_le_pow_right (n := 2) (by omega) (show a + 1 ≤ j from hlt)
      rw [Nat.pow_succ] at this
      omega
    · exact e
    · have := Nat.pow_le_pow_right (n := 2) (by omega) (show j + 1 ≤ a from hlt)
      rw [Nat.pow_succ] at this
      omega
  rw [this]

/-- Its number of bits: each half has a bit fewer at the least. -/
theorem bl_le (x k : Nat) (h : x < 2 ^ k) (hk : k ≤ 64) : Lib.bitLen x ≤ k := Lib.bitLen_le x k hk h
theorem bl_pos (n : Nat) (h : 2 ≤ n) (hn : n < 2 ^ 64) : 0 < Lib.bitLen (n - 1) ∧ Lib.bitLen (n - 1) ≤ 64 :=
  ⟨(bitLen_pow (n - 1) (n - 1) (Nat.le_refl _) (by omega) (by omega)).1, Lib.bitLen_le _ 64 (Nat.le_refl _) (by omega)⟩
theorem bl_lo (n m : Nat) (h : 2 ≤ n) (hn : n < 2 ^ 64) (hm : m ≤ hf n) (h0 : 0 < m) : Lib.bitLen (m - 1) + 1 ≤ Lib.bitLen (n - 1) := by
  obtain ⟨p1, p2⟩ := bl_pos n h hn
  have := bl_le (m - 1) (Lib.bitLen (n - 1) - 1) (by unfold hf at hm; omega) (by omega)
  omega

end Go.Proofs.YtlgcjdgcgnlcaaaGreatDoor
