/-
  Acts in memory: a call's kind, names, bytes and numbers.
-/
import Derived.Test.YtninkkdbcgadpaaGreatDoorMe
import Derived.Test.YtninkkdbcgadpaaGreatDoorNw
namespace Go.Proofs.YtninkkdbcgadpaaGreatDoor
open Go.RowKit
set_option linter.unusedVariables false

/-- An act's cells. -/
def acC (k : Int) (n t : ByteArray) (v : Value) (p q : Int) : List Value := [.int .i64 k, .string n, .string t, v, .int .i64 p, .int .i64 q]
theorem One.ac (k : Int) (n t : ByteArray) (a : Option Addr) (l c : Nat) (p q : Int) : One (acC k n t (.slice a l c) p q) := by
  intro v hv
  simp [acC] at hv
  rcases hv with rfl | rfl | rfl | rfl | rfl | rfl <;> rfl
/-- An act. -/
structure Ac where
  k : Int
  n : ByteArray
  t : ByteArray
  a : Option Addr
  l : Nat
  c : Nat
  xs : List Int
  p : Int
  q : Int
def Ac.cells (x : Ac) : List Value := acC x.k x.n x.t (.slice x.a x.l x.c) x.p x.q
/-- How much an act weighs. -/
def Ac.bulk (x : Ac) : Nat := x.n.size + x.t.size + x.xs.length + 1
def bulks (L : List Ac) : Nat := (L.map Ac.bulk).sum
/-- Numbers that the machine has; its bytes lie in memory. -/
structure Ac.In (w : World) (x : Ac) : Prop where
  sl : Sl w x.a x.l x.c x.xs
  k : -9223372036854775808 ≤ x.k ∧ x.k ≤ 9223372036854775807
  p : -9223372036854775808 ≤ x.p ∧ x.p ≤ 9223372036854775807
  q : -9223372036854775808 ≤ x.q ∧ x.q ≤ 9223372036854775807
theorem Ac.In.below {w w' : World} {x : Ac} (h : x.In w) (hb : Below w.heap.size w w') : x.In w' := ⟨h.sl.below hb, h.k, h.p, h.q⟩
/-- A slice of acts. -/
structure Acts (w : World) (a : Option Addr) (len cap : Nat) (L : List Ac) : Prop where
  hlen : L.length = len
  hcap : len ≤ cap
  hmax : cap ≤ 9223372036854775807
  hsum : bulks L ≤ 1048576
  hin : ∀ (i : Nat) x, L[i]? = some x → x.In w
  hcell : ∀ (i : Nat) x, L[i]? = some x → ∃ b off, a = some ⟨b, off, none⟩ ∧ w.rangeAt b (off + i * 6) x.cells
theorem rangeAt_below {w w' : World} {b o : Nat} {vs : List Value} (h : w.rangeAt b o vs) (hb : Below w.heap.size w w') : w'.rangeAt b o vs := fun j v hv => by
  have := h j v hv
  exact cell_kept this hb
theorem Acts.below {w w' : World} {a : Option Addr} {len cap : Nat} {L : List Ac} (h : Acts w a len cap L) (hb : Below w.heap.size w w') : Acts w' a len cap L :=
  ⟨h.hlen, h.hcap, h.hmax, h.hsum, fun i x hx => (h.hin i x hx).below hb, fun i x hx => by
    obtain ⟨b, off, e, hr⟩ := h.hcell i x hx
    exact ⟨b, off, e, rangeAt_below hr hb⟩⟩
theorem bulks_app (L M : List Ac) : bulks (L ++ M) = bulks L + bulks M := by simp [bulks]
theorem bulks_take (L : List Ac) : ∀ k, bulks (L.take k) ≤ bulks L := fun k => by
  have h := bulks_app (L.take k) (L.drop k)
  rw [List.take_append_drop] at h
  omega
theorem bulks_succ (L : List Ac) (k : Nat) (x : Ac) (h : L[k]? = some x) : bulks (L.take (k + 1)) = bulks (L.take k) + x.bulk := by
  obtain ⟨hk, rfl⟩ := List.getElem?_eq_some_iff.1 h
  rw [List.take_succ_eq_append_getElem hk, bulks_app]
  simp [bulks]
theorem len_bulks (L : List Ac) : L.length ≤ bulks L := by
  induction L with
  | nil => simp
  | cons x r ih => simp [bulks, Ac.bulk] at ih ⊢; omega

end Go.Proofs.YtninkkdbcgadpaaGreatDoor
