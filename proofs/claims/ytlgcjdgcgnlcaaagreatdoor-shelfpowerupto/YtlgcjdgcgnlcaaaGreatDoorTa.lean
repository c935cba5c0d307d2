/-
  Tiles by numbers: how many digests one has in a log, how many levels there are, where a node is. No program here.
-/
import Derived.Test.YtlgcjdgcgnlcaaaGreatDoorPlain
import Derived.Test.YtlgcjdgcgnlcaaaGreatDoorHf
namespace Go.Proofs.YtlgcjdgcgnlcaaaGreatDoor
open Go.RowKit
set_option linter.unusedVariables false

/-- A height. -/
def isH (h : Nat) : Prop := 1 ≤ h ∧ h ≤ 8
theorem isH.pow {h : Nat} (hh : isH h) : 2 ≤ 2 ^ h ∧ 2 ^ h ≤ 256 := by
  obtain ⟨h1, h2⟩ := hh
  have a := Nat.pow_le_pow_right (n := 2) (by decide) h1
  have b := Nat.pow_le_pow_right (n := 2) (by decide) h2
  exact ⟨a, b⟩
/-- How many digests the level l has over n leaves. -/
def tOv (h l n : Nat) : Nat := n / 2 ^ (h * l)
/-- How many digests a tile has in a log of n leaves. -/
def tW (h l i n : Nat) : Nat := min (tOv h l n - i * 2 ^ h) (2 ^ h)
theorem tOv_le (h l n : Nat) : tOv h l n ≤ n := Nat.div_le_self _ _
theorem tOv_zero (h n : Nat) : tOv h 0 n = n := by simp [tOv]
theorem tOv_succ (h l n : Nat) : tOv h (l + 1) n = tOv h l n / 2 ^ h := by
  unfold tOv
  rw [Nat.mul_succ, Nat.pow_add, Nat.div_div_eq_div_mul]
theorem tOv_high {h l n : Nat} (hn : n ≤ 281474976710656) (hl : 48 < h * l) : tOv h l n = 0 := by
  unfold tOv
  apply Nat.div_eq_of_lt
  have := Nat.pow_le_pow_right (n := 2) (by decide) (show 49 ≤ h * l from hl)
  omega
theorem high_of {h l : Nat} (hh : isH h) (hl : 48 / h < l) : 48 < h * l := by
  obtain ⟨h1, h2⟩ := hh
  have e := Nat.div_add_mod 48 h
  have m := Nat.mod_lt 48 (show 0 < h by omega)
  have := Nat.mul_le_mul_left h (show 48 / h + 1 ≤ l from hl)
  rw [Nat.mul_add, Nat.mul_one] at this
  omega
theorem low_of {h l : Nat} (hh : isH h) (hl : l ≤ 48 / h) : h * l ≤ 48 := by
  have := Nat.mul_le_mul_left h hl
  have e := Nat.mul_div_le 48 h
  omega
theorem tW_past {h l i n : Nat} (hp : tOv h l n / 2 ^ h < i) : tW h l i n = 0 := by
  unfold tW
  have hq := Nat.two_pow_pos h
  have := (Nat.div_lt_iff_lt_mul hq).1 hp
  generalize tOv h l n = a at *
  generalize i * 2 ^ h = b at *
  omega
theorem tW_le (h l i n : Nat) : tW h l i n ≤ 2 ^ h := Nat.min_le_right _ _

/-- How many levels have a digest. -/
def tLv (h n : Nat) : Nat := (Lib.bitLen n + h - 1) / h
theorem tLv_top {h n : Nat} (hh : isH h) (hn : n ≤ 281474976710656) : tOv h (tLv h n) n = 0 := by
  by_cases h0 : n = 0
  · subst h0; simp [tOv]
  · have hb := (bitLen_pow n n (Nat.le_refl _) (by omega) (by omega)).2.2
    unfold tOv
    apply Nat.div_eq_of_lt
    refine Nat.lt_of_lt_of_le hb (Nat.pow_le_pow_right (by decide) ?_)
    obtain ⟨h1, h2⟩ := hh
    unfold tLv
    generalize Lib.bitLen n = b
    have e := Nat.div_add_mod (b + h - 1) h
    have m := Nat.mod_lt (b + h - 1) (show 0 < h by omega)
    generalize (b + h - 1) / h = q at *
    generalize (b + h - 1) % h = r at *
    generalize h * q = z at *
    omega
theorem tLv_below {h l n : Nat} (hh : isH h) (hn : n ≤ 281474976710656) (hl : l < tLv h n) : 0 < tOv h l n := by
  obtain ⟨h1, h2⟩ := hh
  have hpos : 0 < n := by
    rcases Nat.eq_zero_or_pos n with rfl | h
    · exfalso
      have : tLv h 0 = 0 := by
        unfold tLv
        rw [show Lib.bitLen 0 = 0 by decide]
        exact Nat.div_eq_of_lt (by omega)
      omega
    · exact h
  have hb := (bitLen_pow n n (Nat.le_refl _) hpos (by omega)).2.1
  unfold tOv
  apply Nat.div_pos _ (Nat.two_pow_pos _)
  refine Nat.le_trans (Nat.pow_le_pow_right (by decide) ?_) hb
  unfold tLv at hl
  generalize Lib.bitLen n = b at *
  have e := Nat.div_add_mod (b + h - 1) h
  have m := Nat.mod_lt (b + h - 1) (show 0 < h by omega)
  generalize (b + h - 1) / h = q at *
  generalize (b + h - 1) % h = r at *
  have := Nat.mul_le_mul_left h (show l + 1 ≤ q from hl)
  rw [Nat.mul_add, Nat.mul_one] at this
  generalize h * q = z at *
  generalize h * l = y at *
  omega
theorem tLv_le {h n : Nat} (hh : isH h) (hn : n ≤ 281474976710656) : tLv h n ≤ 49 := by
  have hb : Lib.bitLen n ≤ 49 := bl_le n 49 (by omega) (by decide)
  obtain ⟨h1, h2⟩ := hh
  unfold tLv
  generalize Lib.bitLen n = b at *
  have e := Nat.div_add_mod (b + h - 1) h
  generalize (b + h - 1) / h = q at *
  generalize (b + h - 1) % h = r at *
  rcases Nat.lt_or_ge 49 q with hq | hq
  · have := Nat.mul_le_mul (show 1 ≤ h from h1) (show 50 ≤ q from hq)
    have h3 := Nat.mul_le_mul_left h (show 50 ≤ q from hq)
    generalize h * q = z at *
    omega
  · exact hq

end Go.Proofs.YtlgcjdgcgnlcaaaGreatDoor
