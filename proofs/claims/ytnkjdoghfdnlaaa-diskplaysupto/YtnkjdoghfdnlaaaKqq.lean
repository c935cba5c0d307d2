/-
  The document's Append: piece by piece.
-/
import Derived.Test.YtnkjdoghfdnlaaaKqp
namespace Go.Proofs.Ytnkjdoghfdnlaaa
open Go.RowKit
set_option linter.unusedVariables false

/-- The next piece is what the document takes. -/
theorem edge_next {s had len k : Nat} (hs : 1 ≤ s) (hl : 0 < len) (hk : k < cntN s had len) : edgeN s had len (k + 1) - edgeN s had len k = min (s - (had + edgeN s had len k) % s) (len - edgeN s had len k) := by
  have h4 : (k + 1) * s = k * s + s := by rw [Nat.add_mul, Nat.one_mul]
  have h3 : had % s < s := Nat.mod_lt _ hs
  by_cases h0 : k = 0
  · subst h0
    rw [edge_zero]
    unfold edgeN
    simp only [Nat.add_zero, Nat.zero_add, Nat.one_mul, Nat.sub_zero]
  · obtain ⟨e1, e2, e3⟩ := edge_mid hs (by omega : 1 ≤ k) hk
    have e5 : had + (k * s - had % s) = (had / s + k) * s := by
      have := Nat.div_add_mod had s
      rw [Nat.add_mul, Nat.mul_comm (had / s) s]
      omega
    rw [e1] at e2 ⊢
    rw [e5, Nat.mul_mod_left]
    unfold edgeN
    omega
theorem edge_lt {s had len k : Nat} (hs : 1 ≤ s) (hl : 0 < len) (hk : k < cntN s had len) : edgeN s had len k < len := by
  have h1 := edge_step hs hl hk
  have h2 : edgeN s had len (k + 1) ≤ len := Nat.min_le_right _ _
  omega
def slen : Value → Nat
  | .slice _ l _ => l
  | _ => 0
/-- What stands at the head of the loop: k pieces are written. -/
structure ApI (w wr : World) (r s : Nat) (rs : List Rw) (R : Rm) (n : ByteArray) (b xs : List Int) (a0 : Option Addr) (k : Nat) (v : Value) : Prop where
  le : k ≤ cntN s xs.length b.length
  sl : ∃ a c, v = .slice a (b.length - edgeN s xs.length b.length k) c ∧ Sl wr a (b.length - edgeN s xs.length b.length k) c (b.drop (edgeN s xs.length b.length k)) ∧ ∀ x, a = some x → ∃ y, a0 = some y ∧ y.block = x.block
  rk : RoP w wr r s R (rs ++ expK s ⟨rAp n b, rs.length, xs.length⟩ k)
theorem RoP.step {w w1 w2 : World} {r s : Nat} {R R1 : Rm} {rs2 : List Rw} {v : Value} (h2 : Chs (R.own r) w w1) (h3 : ∀ k, R1.own r k → R.own r k ∨ w.heap.size ≤ k) (h4 : ∀ k, R1.ro k → R.ro k ∨ w.heap.size ≤ k) (hv : ∀ k, v.ownBlock = some k → w.heap.size ≤ k) (h : RoR w1 w2 r s R1 rs2 v) : RoP w w2 r s R rs2 := by
  obtain ⟨R2, a1, a2, a3, a4⟩ := h
  have hsz := h2.size
  refine ⟨R2, a1, h2.after a2 h3, fun k hk => ?_, fun k hk => ?_⟩
  · rcases a3 k hk with h | h
    · exact h3 k h
    · right; omega
  · rcases a4 k hk with h | h
    · exact h4 k h
    · exact .inr (hv k h)

end Go.Proofs.Ytnkjdoghfdnlaaa
