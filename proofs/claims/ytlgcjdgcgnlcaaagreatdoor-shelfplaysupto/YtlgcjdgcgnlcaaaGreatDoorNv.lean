/-
  Nodes by level and index: may one be (as in Nd, for seats that reach no more of them).
-/
import Derived.Test.YtlgcjdgcgnlcaaaGreatDoorNw
import Derived.Below
import Derived.Laws.BitsAllLaws
namespace Go.Proofs.YtlgcjdgcgnlcaaaGreatDoor
open Go.RowKit
set_option linter.unusedVariables false

/-- A node that may be. -/
def V (l i : Int) : Prop := 0 ≤ l ∧ l ≤ 48 ∧ 0 ≤ i ∧ i < 281474976710656 / 2 ^ l.toNat
theorem V.nats {l i : Int} (h : V l i) : ∃ L I : Nat, l = (L : Int) ∧ i = (I : Int) ∧ L ≤ 48 ∧ (I : Int) < 281474976710656 / 2 ^ L := by
  obtain ⟨h1, h2, h3, h4⟩ := h
  exact ⟨l.toNat, i.toNat, by omega, by omega, by omega, by rw [Int.toNat_of_nonneg h3]; exact h4⟩
theorem notV {l i : Int} (h : ¬ V l i) : l < 0 ∨ 48 < l ∨ ∃ L : Nat, l = (L : Int) ∧ (L : Int) ≤ 48 ∧ (i < 0 ∨ (0 ≤ i ∧ ¬ i < 281474976710656 / 2 ^ L)) := by
  by_cases h1 : l < 0
  · exact .inl h1
  · by_cases h2 : 48 < l
    · exact .inr (.inl h2)
    · refine .inr (.inr ⟨l.toNat, by omega, by omega, ?_⟩)
      by_cases h3 : i < 0
      · exact .inl h3
      · exact .inr ⟨by omega, fun h4 => h ⟨by omega, by omega, by omega, h4⟩⟩

set_option maxHeartbeats 1000000 in
theorem validR_yes (L I : Nat) (w : World) (hL : (L : Int) ≤ 48) (h1 : (I : Int) < 281474976710656 / 2 ^ L) :
    Calls Tryz.prog 34 #[.agg #[.int .i64 (L : Int), .int .i64 (I : Int)]] w fun e w' => e = .returned (.bool true) ∧ Below w.heap.size w w' := by
  go_enter Tryz.func34, Tryz.ntmps34
  go_wp2
  go_ret
  exact ⟨rfl, (Below.refl _ _).alloc (Nat.le_refl _) _⟩
set_option maxHeartbeats 1000000 in
theorem validR_no (l i : Int) (w : World) (h : ¬ V l i) :
    Calls Tryz.prog 34 #[.agg #[.int .i64 l, .int .i64 i]] w fun e w' => e = .returned (.bool false) ∧ Below w.heap.size w w' := by
  rcases notV h with h1 | h1 | ⟨L, rfl, h1, h2 | ⟨h2, h3⟩⟩
  · have h2 : decide (0 ≤ l) = false := by simp; omega
    clear h
    go_enter Tryz.func34, Tryz.ntmps34
    go_wp2
    go_ret
    exact ⟨rfl, (Below.refl _ _).alloc (Nat.le_refl _) _⟩
  · have h2 : 0 ≤ l := by omega
    have h3 : decide (l ≤ 48) = false := by simp; omega
    clear h
    go_enter Tryz.func34, Tryz.ntmps34
    go_wp2
    go_ret
    exact ⟨rfl, (Below.refl _ _).alloc (Nat.le_refl _) _⟩
  · have h3 : decide (0 ≤ i) = false := by simp; omega
    clear h
    go_enter Tryz.func34, Tryz.ntmps34
    go_wp2
    go_ret
    exact ⟨rfl, (Below.refl _ _).alloc (Nat.le_refl _) _⟩
  · have h4 : decide (i < 281474976710656 / 2 ^ L) = false := decide_eq_false h3
    clear h
    go_enter Tryz.func34, Tryz.ntmps34
    go_wp2
    go_ret
    exact ⟨rfl, (Below.refl _ _).alloc (Nat.le_refl _) _⟩

theorem shr_nat (I K : Nat) : (I : Int) / 2 ^ K = ((I / 2 ^ K : Nat) : Int) := by rw [Int.natCast_ediv, Int.natCast_pow]; rfl
end Go.Proofs.YtlgcjdgcgnlcaaaGreatDoor
