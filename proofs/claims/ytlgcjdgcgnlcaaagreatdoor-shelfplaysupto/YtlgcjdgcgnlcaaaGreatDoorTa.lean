/-
  Tiles by numbers: how many digests one has in a log, how many levels there are, where a node is. No program here.
-/
import Derived.Test.YtlgcjdgcgnlcaaaGreatDoorPlain
import Derived.Test.YtlgcjdgcgnlcaaaGreatDoorHf
namespace Go.Proofs.YtlgcjdgcgnlcaaaGreatDoor
open Go.RowKit
set_option linter.unusedVariables false

/-- A height. -/
def isH (h : Nat) : Prop := 1 ≤ h ∧ h ≤ 8
theorem isH.pow {h : Nat} (hh : isH h) : 2 ≤ 2 ^ h ∧ 2 ^ h ≤ 256 := by
  obtain ⟨h1, h2⟩ := hh
  have a := Nat.pow_le_pow_right (n := 2) (by decide) h1
  have b := Nat.pow_le_pow_right (n := 2) (by decide) h2
  exact ⟨a, b⟩
/-- How many digests the level l has over n leaves. -/
def tOv (h l n : Nat) : Nat := n / 2 ^ (h * l)
/-- How many digests a tile has in a log of n leaves. -/
def tW (h l i n : Nat) : Nat := min (tOv h l n - i * 2 ^ h) (2 ^ h)
theorem tOv_le (h l n : Nat) : tOv h l n ≤ n := Nat.div_le_self _ _
theorem tOv_high {h l n : Nat} (hn : n ≤ 281474976710656) (hl : 48 < h * l) : tOv h l n = 0 := by
  unfold tOv
  apply Nat.div_eq_of_lt
  have := Nat.pow_le_pow_right (n := 2) (by decide) (show 49 ≤ h * l from hl)
  omega
theorem high_of {h l : Nat} (hh : isH h) (hl : 48 / h < l) : 48 < h * l := by
  obtain ⟨h1, h2⟩ := hh
  have e := Nat.div_add_mod 48 h
  have m := Nat.mod_lt 48 (show 0 < h by omega)
  have := Nat.mul_le_mul_left h (show 48 / h + 1 ≤ l from hl)
  rw [Nat.mul_add, Nat.mul_one] at this
  omega
theorem low_of {h l : Nat} (hh : isH h) (hl : l ≤ 48 / h) : h * l ≤ 48 := by
  have := Nat.mul_le_mul_left h hl
  have e := Nat.mul_div_le 48 h
  omega
theorem tW_past {h l i n : Nat} (hp : tOv h l n / 2 ^ h < i) : tW h l i n = 0 := by
  unfold tW
  have hq := Nat.two_pow_pos h
  have := (Nat.div_lt_iff_lt_mul hq).1 hp
  generalize tOv h l n = a at *
  generalize i * 2 ^ h = b at *
  omega
theorem tW_le (h l i n : Nat) : tW h l i n ≤ 2 ^ h := Nat.min_le_right _ _

end Go.Proofs.YtlgcjdgcgnlcaaaGreatDoor
