/-
  Acts one behind the other: what stands at the head of the laws' loops.
-/
import Derived.Test.YtnkjdoghfdnlaaaKmk
namespace Go.Proofs.Ytnkjdoghfdnlaaa
open Go.RowKit
set_option linter.unusedVariables false

/-- Acts that have been done to a disk, as far as k. -/
structure LpI (w W0 wr : World) (d s : Nat) (rs : List Rw) (D0 : Dm) (L : List Ac) (k : Nat) : Prop where
  le : k ≤ L.length
  op : OpR W0 wr d s D0 (acS s rs (L.take k))
  bel : Below w.heap.size w wr
theorem DkAt.chs {a b : World} {d s : Nat} {rs : List Rw} {D : Dm} {S : Nat → Prop} (h : DkAt a d s rs D) (hc : Chs S a b) (hn : ∀ k, D.own d k ∨ D.ro k → ¬ S k) : DkAt b d s rs D := h.same (fun k hk => hc.block k (h.lt hk) (hn k hk))

end Go.Proofs.Ytnkjdoghfdnlaaa
