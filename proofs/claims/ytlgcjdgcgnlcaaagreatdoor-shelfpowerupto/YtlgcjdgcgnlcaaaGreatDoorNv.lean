/-
  Nodes by level and index: may one be (as in Nd, for seats that reach no more of them).
-/
import Derived.Test.YtlgcjdgcgnlcaaaGreatDoorNw
import Derived.Below
import Derived.Laws.BitsAllLaws
namespace Go.Proofs.YtlgcjdgcgnlcaaaGreatDoor
open Go.RowKit
set_option linter.unusedVariables false

/-- A node that may be. -/
def V (l i : Int) : Prop := 0 ≤ l ∧ l ≤ 48 ∧ 0 ≤ i ∧ i < 281474976710656 / 2 ^ l.toNat
theorem below_box (w : World) (o : Obj) (n : Nat) : Below w.heap.size w ((w.alloc o).drewN n) :=
  ((Below.refl _ _).alloc (Nat.le_refl _) _).trans ⟨rfl, rfl, rfl, Nat.le_refl _, fun _ _ => rfl⟩
theorem V.nats {l i : Int} (h : V l i) : ∃ L I : Nat, l = (L : Int) ∧ i = (I : Int) ∧ L ≤ 48 ∧ (I : Int) < 281474976710656 / 2 ^ L := by
  obtain ⟨h1, h2, h3, h4⟩ := h
  exact ⟨l.toNat, i.toNat, by omega, by omega, by omega, by rw [Int.toNat_of_nonneg h3]; exact h4⟩
theorem notV {l i : Int} (h : ¬ V l i) : l < 0 ∨ 48 < l ∨ ∃ L : Nat, l = (L : Int) ∧ (L : Int) ≤ 48 ∧ (i < 0 ∨ (0 ≤ i ∧ ¬ i < 281474976710656 / 2 ^ L)) := by
  by_cases h1 : l < 0
  · exact .inl h1
  · by_cases h2 : 48 < l
    · exact .inr (.inl h2)
    · refine .inr (.inr ⟨l.toNat, by omega, by omega, ?_⟩)
      by_cases h3 : i < 0
      · exact .inl h3
      · exact .inr ⟨by omega, fun h4 => h ⟨by omega, by omega, by omega, h4⟩⟩

set_option maxHeartbeats 1000000 in
theorem validR_yes (L I : Nat) (w : World) (hL : (L : Int) ≤ 48) (h1 : (I : Int) < 281474976710656 / 2 ^ L) :
    Calls Tryz.prog 34 #[.agg #[.int .i64 (L : Int), .int .i64 (I : Int)]] w fun e w' => e = .returned (.bool true) ∧ Below w.heap.size w w' := by
  go_enter Tryz.func34, Tryz.ntmps34
  go_wp2
  go_ret
  exact ⟨rfl, (Below.refl _ _).alloc (Nat.le_refl _) _⟩
set_option maxHeartbeats 1000000 in
theorem validR_no (l i : Int) (w : World) (h : ¬ V l i) :
    Calls Tryz.prog 34 #[.agg #[.int .i64 l, .int .i64 i]] w fun e w' => e = .returned (.bool false) ∧ Below w.heap.size w w' := by
  rcases notV h with h1 | h1 | ⟨L, rfl, h1, h2 | ⟨h2, h3⟩⟩
  · have h2 : decide (0 ≤ l) = false := by simp; omega
    clear h
    go_enter Tryz.func34, Tryz.ntmps34
    go_wp2
    go_ret
    exact ⟨rfl, (Below.refl _ _).alloc (Nat.le_refl _) _⟩
  · have h2 : 0 ≤ l := by omega
    have h3 : decide (l ≤ 48) = false := by simp; omega
    clear h
    go_enter Tryz.func34, Tryz.ntmps34
    go_wp2
    go_ret
    exact ⟨rfl, (Below.refl _ _).alloc (Nat.le_refl _) _⟩
  · have h3 : decide (0 ≤ i) = false := by simp; omega
    clear h
    go_enter Tryz.func34, Tryz.ntmps34
    go_wp2
    go_ret
    exact ⟨rfl, (Below.refl _ _).alloc (Nat.le_refl _) _⟩
  · have h4 : decide (i < 281474976710656 / 2 ^ L) = false := decide_eq_false h3
    clear h
    go_enter Tryz.func34, Tryz.ntmps34
    go_wp2
    go_ret
    exact ⟨rfl, (Below.refl _ _).alloc (Nat.le_refl _) _⟩

theorem zN : Zeroed 87 (c2 0 0) := fun _ _ _ _ _ _ _ => by kernel_rfl
theorem wN : Wide 87 2 := ⟨by kernel_rfl, by kernel_rfl⟩
theorem shr_nat (I K : Nat) : (I : Int) / 2 ^ K = ((I / 2 ^ K : Nat) : Int) := by rw [Int.natCast_ediv, Int.natCast_pow]; rfl
/-- A node's leaves lie below 2^48. -/
theorem leaf_bd {L I : Nat} (hL : L ≤ 48) (h : (I : Int) < 281474976710656 / 2 ^ L) : I * 2 ^ L + 2 ^ L ≤ 281474976710656 ∧ I < 281474976710656 := by
  have h2 : ((281474976710656 : Nat) : Int) / 2 ^ L = ((281474976710656 / 2 ^ L : Nat) : Int) := shr_nat _ _
  have h3 : I < 281474976710656 / 2 ^ L := by
    have h4 : (I : Int) < ((281474976710656 / 2 ^ L : Nat) : Int) := by rw [← h2]; exact h
    omega
  have hp := Nat.two_pow_pos L
  have h5 : (I + 1) * 2 ^ L ≤ 281474976710656 := by
    have := Nat.mul_le_mul_right (2 ^ L) (show I + 1 ≤ 281474976710656 / 2 ^ L from h3)
    exact Nat.le_trans this (Nat.div_mul_le_self _ _)
  rw [Nat.add_mul, Nat.one_mul] at h5
  refine ⟨h5, Nat.lt_of_lt_of_le h3 (Nat.div_le_self _ _)⟩


end Go.Proofs.YtlgcjdgcgnlcaaaGreatDoor
