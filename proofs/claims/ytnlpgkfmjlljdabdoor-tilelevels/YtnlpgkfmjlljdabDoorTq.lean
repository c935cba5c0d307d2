/-
  Roots of runs of leaves, one behind the other: their tree is the tree of all these leaves. No program here.
-/
import Derived.Test.YtnlpgkfmjlljdabDoorDa
import Derived.Test.YtnlpgkfmjlljdabDoorTa
namespace Go.Proofs.YtnlpgkfmjlljdabDoor
open Go.RowKit
set_option linter.unusedVariables false

theorem hf_pow (k : Nat) (hk : k < 60) : hf (2 ^ (k + 1)) = 2 ^ k := by
  have h0 := Nat.two_pow_pos k
  have e : 2 ^ (k + 1) = 2 * 2 ^ k := by rw [Nat.pow_succ, Nat.mul_comm]
  have hb : 2 ^ k < 2 ^ 60 := Nat.pow_lt_pow_right (by decide) hk
  exact hf_uniq (2 ^ (k + 1)) k (by omega) (by omega) (by omega) (by omega)
theorem subT_lo {xs : List Int} {n b e : Nat} (h : xs.length = 32 * n) (hb : b ≤ e) (he : e ≤ n) (h2 : 2 ≤ e - b) (hn : e < 2 ^ 64) : lo (sub xs b e) = sub xs b (b + hf (e - b)) := by
  have hh := hf_bd (e - b) h2 (by omega)
  rw [lo_eq (sub_length h hb he)]
  unfold sub
  rw [List.take_take]
  congr 1
  omega
theorem subT_hi {xs : List Int} {n b e : Nat} (h : xs.length = 32 * n) (hb : b ≤ e) (he : e ≤ n) (h2 : 2 ≤ e - b) (hn : e < 2 ^ 64) : hi (sub xs b e) = sub xs (b + hf (e - b)) e := by
  have hh := hf_bd (e - b) h2 (by omega)
  rw [hi_eq (sub_length h hb he)]
  unfold sub
  rw [List.drop_take, List.drop_drop]
  congr 1
  · omega
  · congr 1
    omega
theorem root_sub_pow {xs : List Int} {N b k : Nat} (hx : xs.length = 32 * N) (hN : N < 2 ^ 60) (hk : k < 59) (he : b + 2 ^ (k + 1) ≤ N) :
    root (sub xs b (b + 2 ^ (k + 1))) = nd (root (sub xs b (b + 2 ^ k))) (root (sub xs (b + 2 ^ k) (b + 2 ^ (k + 1)))) := by
  have h0 := Nat.two_pow_pos k
  have e : 2 ^ (k + 1) = 2 * 2 ^ k := by rw [Nat.pow_succ, Nat.mul_comm]
  have e2 : b + 2 ^ (k + 1) - b = 2 ^ (k + 1) := by omega
  have hl := sub_length hx (show b ≤ b + 2 ^ (k + 1) by omega) he
  rw [root_node hl (by omega) (by omega), subT_lo hx (by omega) he (by omega) (by omega), subT_hi hx (by omega) he (by omega) (by omega), e2, hf_pow k (by omega)]
/-- The roots of w runs of s leaves, from the leaf b on, one behind the other. -/
def chk (xs : List Int) (s b w : Nat) : List Int := (List.range w).flatMap fun j => root (sub xs (b + j * s) (b + (j + 1) * s))
theorem chk_zero (xs : List Int) (s b : Nat) : chk xs s b 0 = [] := rfl
theorem chk_succ (xs : List Int) (s b w : Nat) : chk xs s b (w + 1) = chk xs s b w ++ root (sub xs (b + w * s) (b + (w + 1) * s)) := by
  unfold chk
  rw [List.range_succ, List.flatMap_append]
  simp
theorem chk_add (xs : List Int) (s b m n : Nat) : chk xs s b (m + n) = chk xs s b m ++ chk xs s (b + m * s) n := by
  induction n with
  | zero => simp [chk_zero]
  | succ n ih =>
    rw [← Nat.add_assoc, chk_succ, ih, chk_succ, List.append_assoc]
    congr 2
    rw [Nat.add_mul, Nat.add_mul (m + n) 1, Nat.add_mul m n, Nat.add_mul n 1]
    congr 2 <;> omega
theorem chk_one (xs : List Int) (s b : Nat) : chk xs s b 1 = root (sub xs b (b + s)) := by
  rw [chk_succ, chk_zero, List.nil_append]
  simp
theorem chk_length {xs : List Int} {N s b w : Nat} (hx : xs.length = 32 * N) (hb : isB xs) (he : b + w * s ≤ N) : (chk xs s b w).length = 32 * w := by
  induction w with
  | zero => rfl
  | succ w ih =>
    rw [Nat.add_mul, Nat.one_mul] at he
    rw [chk_succ, List.length_append, ih (by omega), root_length (sub_length hx (by rw [Nat.add_mul, Nat.one_mul]; omega) (by rw [Nat.add_mul, Nat.one_mul]; omega)) (sub_isB hb _ _)]
    omega
theorem chk_isB {xs : List Int} {N s b w : Nat} (hx : xs.length = 32 * N) (hb : isB xs) (he : b + w * s ≤ N) : isB (chk xs s b w) := by
  induction w with
  | zero => intro x h; cases h
  | succ w ih =>
    rw [Nat.add_mul, Nat.one_mul] at he
    rw [chk_succ]
    exact (ih (by omega)).append (root_isB (sub_length hx (by rw [Nat.add_mul, Nat.one_mul]; omega) (by rw [Nat.add_mul, Nat.one_mul]; omega)) (sub_isB hb _ _))
theorem chk_sub {xs : List Int} {N s b w F T : Nat} (hx : xs.length = 32 * N) (hb : isB xs) (he : b + w * s ≤ N) (h1 : F ≤ T) (h2 : T ≤ w) : sub (chk xs s b w) F T = chk xs s (b + F * s) (T - F) := by
  have hFs : F * s ≤ w * s := Nat.mul_le_mul_right s (by omega)
  have hTs : T * s ≤ w * s := Nat.mul_le_mul_right s h2
  have hTF : F * s + (T - F) * s = T * s := by rw [← Nat.add_mul, Nat.add_sub_cancel' h1]
  obtain ⟨r, rfl⟩ : ∃ r, w = F + ((T - F) + r) := ⟨w - T, by omega⟩
  unfold sub
  rw [chk_add, chk_add]
  have l1 := chk_length (s := s) (b := b) (w := F) hx hb (by omega)
  have l2 := chk_length (s := s) (b := b + F * s) (w := T - F) hx hb (by omega)
  rw [List.drop_left' l1, List.take_left' l2]
theorem chk_root {xs : List Int} {N k : Nat} (hx : xs.length = 32 * N) (hb : isB xs) (hN : N < 2 ^ 60) : ∀ (r b : Nat), r + k < 59 → b + 2 ^ r * 2 ^ k ≤ N → root (chk xs (2 ^ k) b (2 ^ r)) = root (sub xs b (b + 2 ^ (r + k)))
  | 0, b, _, he => by
    rw [Nat.pow_zero, Nat.one_mul] at he
    rw [Nat.pow_zero, chk_one, Nat.zero_add]
    exact root_one (root_length (sub_length hx (Nat.le_add_right _ _) he) (sub_isB hb _ _))
  | r + 1, b, hr, he => by
    have e : 2 ^ (r + 1) = 2 ^ r + 2 ^ r := by rw [Nat.pow_succ]; omega
    have ek : 2 ^ r * 2 ^ k = 2 ^ (r + k) := (Nat.pow_add 2 r k).symm
    have he2 : b + (2 ^ r * 2 ^ k + 2 ^ r * 2 ^ k) ≤ N := by rw [← Nat.add_mul, ← e]; exact he
    have h0 := Nat.two_pow_pos r
    have hlen := chk_length (s := 2 ^ k) (b := b) (w := 2 ^ (r + 1)) hx hb he
    have hl1 := chk_length (s := 2 ^ k) (b := b) (w := 2 ^ r) hx hb (by omega)
    have hrb : 2 ^ r < 2 ^ 59 := Nat.pow_lt_pow_right (by decide) (by omega)
    rw [root_node hlen (by omega) (by omega), lo_eq hlen, hi_eq hlen, hf_pow r (by omega)]
    rw [e, chk_add, List.take_left' hl1, List.drop_left' hl1, chk_root hx hb hN r b (by omega) (by omega), chk_root hx hb hN r (b + 2 ^ r * 2 ^ k) (by omega) (by omega)]
    have hs := root_sub_pow (b := b) (k := r + k) hx hN (by omega) (by
      rw [show r + k + 1 = r + 1 + k by omega, Nat.pow_add 2 (r + 1) k]
      exact he)
    rw [show r + 1 + k = r + k + 1 by omega, hs, ek]
    congr 3
    rw [Nat.pow_succ]
    omega

end Go.Proofs.YtnlpgkfmjlljdabDoor
