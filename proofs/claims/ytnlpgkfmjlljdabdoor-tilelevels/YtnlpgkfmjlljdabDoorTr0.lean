/-
  Where a node's digests lie in its tile of a log, and what its tree is. No program here.
-/
import Derived.Test.YtnlpgkfmjlljdabDoorTq
import Derived.Test.YtnlpgkfmjlljdabDoorTg
namespace Go.Proofs.YtnlpgkfmjlljdabDoor
open Go.RowKit
set_option linter.unusedVariables false

theorem oT_le {h : Nat} (hh : isH h) (L I : Nat) : oT h L I ≤ 2 ^ h := by
  have hr : L % h < h := Nat.mod_lt _ (by have := hh.1; omega)
  have e : 2 ^ h = 2 ^ (L % h) * 2 ^ (h - L % h) := by rw [← Nat.pow_add]; congr 1; omega
  unfold oT oF oA
  rw [e, Nat.mul_comm I, Nat.mul_mod_mul_left]
  have hm := Nat.mod_lt I (Nat.two_pow_pos (h - L % h))
  have := Nat.mul_le_mul_left (2 ^ (L % h)) (show I % 2 ^ (h - L % h) + 1 ≤ 2 ^ (h - L % h) from hm)
  rw [Nat.mul_add, Nat.mul_one] at this
  exact this
theorem oXF (h L I : Nat) : oX h L I * 2 ^ h + oF h L I = I * 2 ^ (L % h) := by
  unfold oX oF oA
  rw [Nat.mul_comm]
  exact Nat.div_add_mod _ _
theorem lv_pow (h L : Nat) : 2 ^ (L % h) * 2 ^ (h * (L / h)) = 2 ^ L := by
  rw [← Nat.pow_add]
  congr 1
  have := Nat.div_add_mod L h
  omega
/-- The tile of a node of a log is as wide as that. -/
theorem width_ge {h L I N : Nat} (hh : isH h) (hI : I < N / 2 ^ L) : oT h L I ≤ tW h (L / h) (oX h L I) N ∧ (I + 1) * 2 ^ L ≤ N := by
  have h1 : (I + 1) * 2 ^ L ≤ N := (Nat.le_div_iff_mul_le (Nat.two_pow_pos L)).1 hI
  refine ⟨?_, h1⟩
  have h2 : (I + 1) * 2 ^ (L % h) ≤ N / 2 ^ (h * (L / h)) := by
    rw [Nat.le_div_iff_mul_le (Nat.two_pow_pos _), Nat.mul_assoc, lv_pow]
    exact h1
  have h3 := oXF h L I
  have h4 := oT_le hh L I
  unfold tW tOv
  have h5 : oX h L I * 2 ^ h + oT h L I ≤ N / 2 ^ (h * (L / h)) := by
    unfold oT
    rw [← Nat.add_assoc, h3]
    rw [Nat.add_mul, Nat.one_mul] at h2
    exact h2
  generalize oX h L I * 2 ^ h = a at *
  generalize N / 2 ^ (h * (L / h)) = b at *
  generalize oT h L I = c at *
  generalize 2 ^ h = d at *
  omega
/-- A tile's nodes stand over leaves of the log. -/
theorem width_in {h l i n : Nat} (hw : 0 < tW h l i n) : (i * 2 ^ h + tW h l i n) * 2 ^ (h * l) ≤ n := by
  have h1 : i * 2 ^ h + tW h l i n ≤ tOv h l n := by
    unfold tW at *
    generalize i * 2 ^ h = a at *
    generalize tOv h l n = b at *
    generalize 2 ^ h = d at *
    omega
  exact (Nat.le_div_iff_mul_le (Nat.two_pow_pos _)).1 h1
theorem tW_mono {h l i n m : Nat} (hn : n ≤ m) : tW h l i n ≤ tW h l i m := by
  have h1 : tOv h l n ≤ tOv h l m := Nat.div_le_div_right hn
  unfold tW
  generalize tOv h l n = a at *
  generalize tOv h l m = b at *
  generalize i * 2 ^ h = c at *
  generalize 2 ^ h = d at *
  omega
/-- Out of a log's tile comes the root of a node's leaves. -/
theorem node_root {xs : List Int} {N h L I w : Nat} (hx : xs.length = 32 * N) (hb : isB xs) (hN : N < 2 ^ 60) (hL : L ≤ 48) (hw : oT h L I ≤ w) (hle : (oX h L I * 2 ^ h + w) * 2 ^ (h * (L / h)) ≤ N) :
    root (sub (chk xs (2 ^ (h * (L / h))) (oX h L I * 2 ^ h * 2 ^ (h * (L / h))) w) (oF h L I) (oT h L I)) = root (sub xs (I * 2 ^ L) ((I + 1) * 2 ^ L)) := by
  have hFT := oF_lt h L I
  have hTF : oT h L I - oF h L I = 2 ^ (L % h) := by unfold oT; exact Nat.add_sub_cancel_left _ _
  have hle2 : oX h L I * 2 ^ h * 2 ^ (h * (L / h)) + w * 2 ^ (h * (L / h)) ≤ N := by rw [← Nat.add_mul]; exact hle
  rw [chk_sub hx hb hle2 (Nat.le_of_lt hFT) hw, hTF, ← Nat.add_mul, oXF]
  have hlev : L % h + h * (L / h) = L := by have := Nat.div_add_mod L h; omega
  have hend : I * 2 ^ (L % h) * 2 ^ (h * (L / h)) + 2 ^ (L % h) * 2 ^ (h * (L / h)) ≤ N := by
    rw [← Nat.add_mul]
    refine Nat.le_trans (Nat.mul_le_mul_right _ ?_) hle
    have h3 := oXF h L I
    unfold oT at hw
    omega
  rw [chk_root hx hb hN (L % h) _ (by omega) hend, hlev, Nat.mul_assoc, lv_pow]
  congr 2
  rw [Nat.add_mul, Nat.one_mul]

end Go.Proofs.YtnlpgkfmjlljdabDoor
