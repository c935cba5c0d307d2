/-
  Acts in memory: a call of a journal.
-/
import Derived.Test.YtninkkdbcgadpaaGreatDoorMe
import Derived.Test.YtninkkdbcgadpaaGreatDoorNw
import Derived.Test.YtninkkdbcgadpaaGreatDoorKac
namespace Go.Proofs.YtninkkdbcgadpaaGreatDoor
open Go.RowKit
set_option linter.unusedVariables false

/-- An act. -/
structure Aj where
  cl : Bool
  k : Int
  a : Option Addr
  l : Nat
  c : Nat
  xs : List Int
def Aj.cells (x : Aj) : List Value := [.bool x.cl, .int .i64 x.k, .slice x.a x.l x.c]
theorem Aj.one (x : Aj) : One x.cells := by
  intro v hv
  simp [Aj.cells] at hv
  rcases hv with rfl | rfl | rfl <;> rfl
/-- How much an act weighs. -/
def Aj.bulk (x : Aj) : Nat := x.xs.length + 4
def jbulk (L : List Aj) : Nat := (L.map Aj.bulk).sum
/-- Numbers that the machine has; its bytes lie in memory. -/
structure Aj.In (w : World) (x : Aj) : Prop where
  sl : Sl w x.a x.l x.c x.xs
  k : -9223372036854775808 ≤ x.k ∧ x.k ≤ 9223372036854775807
theorem Aj.In.below {w w' : World} {x : Aj} (h : x.In w) (hb : Below w.heap.size w w') : x.In w' := ⟨h.sl.below hb, h.k⟩
/-- A slice of acts. -/
structure Ajs (w : World) (a : Option Addr) (len cap : Nat) (L : List Aj) : Prop where
  hlen : L.length = len
  hcap : len ≤ cap
  hmax : cap ≤ 9223372036854775807
  hsum : jbulk L ≤ 1048576
  hin : ∀ (i : Nat) x, L[i]? = some x → x.In w
  hcell : ∀ (i : Nat) x, L[i]? = some x → ∃ b off, a = some ⟨b, off, none⟩ ∧ w.rangeAt b (off + i * 3) x.cells
theorem Ajs.below {w w' : World} {a : Option Addr} {len cap : Nat} {L : List Aj} (h : Ajs w a len cap L) (hb : Below w.heap.size w w') : Ajs w' a len cap L :=
  ⟨h.hlen, h.hcap, h.hmax, h.hsum, fun i x hx => (h.hin i x hx).below hb, fun i x hx => by
    obtain ⟨b, off, e, hr⟩ := h.hcell i x hx
    exact ⟨b, off, e, rangeAt_below hr hb⟩⟩
theorem jbulk_app (L M : List Aj) : jbulk (L ++ M) = jbulk L + jbulk M := by simp [jbulk]
theorem jbulk_take (L : List Aj) : ∀ k, jbulk (L.take k) ≤ jbulk L := fun k => by
  have h := jbulk_app (L.take k) (L.drop k)
  rw [List.take_append_drop] at h
  omega
theorem jbulk_succ (L : List Aj) (k : Nat) (x : Aj) (h : L[k]? = some x) : jbulk (L.take (k + 1)) = jbulk (L.take k) + x.bulk := by
  obtain ⟨hk, rfl⟩ := List.getElem?_eq_some_iff.1 h
  rw [List.take_succ_eq_append_getElem hk, jbulk_app]
  simp [jbulk]
theorem len_jbulk (L : List Aj) : 4 * L.length ≤ jbulk L := by
  induction L with
  | nil => simp
  | cons x r ih => simp [jbulk, Aj.bulk] at ih ⊢; omega

end Go.Proofs.YtninkkdbcgadpaaGreatDoor
