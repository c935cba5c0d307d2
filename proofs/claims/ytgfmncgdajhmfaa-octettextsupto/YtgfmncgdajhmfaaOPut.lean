/-
  octet, ported from round 1 (Put).
-/
import Derived.Test.YtgfmncgdajhmfaaOMem
import Derived.Deep.RegionLaw
namespace Go.Proofs.Ytgfmncgdajhmfaa
open Go.RowKit
set_option linter.unusedVariables false

theorem splice_zer (ys : List Int) (n m : Nat) (h : ys.length = m) : splice (zer (m + n)) 0 (ys.take m) = ys ++ zer n := by
  rw [← h, List.take_length]
  simp [splice, zer]

/-- The bytes of a number, the highest first. -/
def be (v : Int) (n : Nat) : List Int := (List.range n).map fun i => v / 256 ^ (n - 1 - i) % 256
theorem be_length (v : Int) (n : Nat) : (be v n).length = n := by simp [be]
theorem be_isB (v : Int) (n : Nat) : isB (be v n) := by
  intro x hx
  simp only [be, List.mem_map, List.mem_range] at hx
  obtain ⟨i, _, rfl⟩ := hx
  omega
theorem be_get (v : Int) (n k : Nat) (h : k < n) : (be v n).getD k 0 = v / 256 ^ (n - 1 - k) % 256 := by simp [be, List.getD, h]

theorem pow2_8 (m : Nat) : (2 : Int) ^ (8 * m) = 256 ^ m := by rw [Int.pow_mul]; rfl

/-- One byte more of B laid over noughts. -/
theorem fill_step (xs B : List Int) (len n k : Nat) (hx : xs.length = len) (hB : B.length = n) (hk : k < n) :
    (xs ++ (B.take k ++ zer (n - k))).set (len + k) (B.getD k 0) = xs ++ (B.take (k + 1) ++ zer (n - (k + 1))) := by
  subst hx
  rw [List.set_append_right _ _ (by omega), Nat.add_sub_cancel_left]
  congr 1
  have hz : zer (n - k) = 0 :: zer (n - (k + 1)) := by
    have : n - k = (n - (k + 1)) + 1 := by omega
    rw [this]; simp [zer, List.replicate_succ]
  rw [List.set_append_right _ _ (by simp; omega), hz]
  have e : k - (B.take k).length = 0 := by simp; omega
  have e2 : B.getD k 0 = B[k] := by simp [List.getD, hB, hk]
  rw [e, e2, List.take_succ_eq_append_getElem (by omega), List.append_assoc]
  rfl

/-- One byte more of B, from its end. -/
theorem back_step (B : List Int) (n k : Nat) (hB : B.length = n) (hk : k < n) : (zer (k + 1) ++ B.drop (k + 1)).set k (B.getD k 0) = zer k ++ B.drop k := by
  have hz : zer (k + 1) = zer k ++ [0] := by simp [zer, List.replicate_succ']
  rw [hz, List.append_assoc, List.set_append_right _ _ (by simp [zer]), List.drop_eq_getElem_cons (i := k) (by omega)]
  have e : k - (zer k).length = 0 := by simp [zer]
  rw [e]
  simp [List.getD, hB, hk]

theorem div_pow (v : Int) (m : Nat) : v / 256 ^ m / 256 = v / 256 ^ (m + 1) := by
  rw [Int.pow_succ, Int.ediv_ediv_of_nonneg (Int.le_of_lt (Int.pow_pos (by decide)))]

theorem quo256 (v : Int) (m : Nat) (hv : 0 ≤ v) (hv2 : v < 18446744073709551616) : IntKind.u64.wrap ((v / 256 ^ m).tdiv 256) = v / 256 ^ (m + 1) := by
  have h0 : 0 ≤ v / 256 ^ m := Int.ediv_nonneg hv (Int.le_of_lt (Int.pow_pos (by decide)))
  have h1 : v / 256 ^ m ≤ v := Int.ediv_le_self _ hv
  rw [Int.tdiv_eq_ediv_of_nonneg h0, div_pow, IntKind.wrap_u64]
  have h2 : 0 ≤ v / 256 ^ (m + 1) := Int.ediv_nonneg hv (Int.le_of_lt (Int.pow_pos (by decide)))
  have h3 : v / 256 ^ (m + 1) ≤ v := Int.ediv_le_self _ hv
  exact Int.emod_eq_of_lt h2 (by omega)

end Go.Proofs.Ytgfmncgdajhmfaa
