/-
  Slices of tiles of the call's own (as in Pr, four numbers each): an element's place, one more appended, an element changed.
-/
import Derived.Test.YtnlpgkfmjlljdabDoorTc
import Derived.Test.YtnlpgkfmjlljdabDoorBu
import Derived.Great.BuildSlice
import Derived.Laws.Bits64
import Derived.Deep.AppendLies
namespace Go.Proofs.YtnlpgkfmjlljdabDoor
open Go.RowKit
set_option linter.unusedVariables false

/-- A tile: its height, level, index, width; its cells. -/
abbrev Tl := Int × Int × Int × Int
def tC (n : Tl) : List Value := c4 n.1 n.2.1 n.2.2.1 n.2.2.2
def tcs (ns : List Tl) : List Value := ns.flatMap tC
theorem One.tC (n : Tl) : One (tC n) := One.c4 _ _ _ _
theorem tcs_length : ∀ ns : List Tl, (tcs ns).length = ns.length * 4
  | [] => rfl
  | n :: ns => by
    have ih := tcs_length ns
    show (tC n ++ tcs ns).length = _
    rw [List.length_append, ih, List.length_cons]
    simp [tC, c4]
    omega
theorem tcs_snoc (ns : List Tl) (n : Tl) : tcs (ns ++ [n]) = tcs ns ++ tC n := by simp [tcs]
theorem tcs_app (ns ms : List Tl) : tcs (ns ++ ms) = tcs ns ++ tcs ms := by simp [tcs]
theorem tcs_at : ∀ (ns : List Tl) (i : Nat) (n : Tl), ns[i]? = some n → ((tcs ns).drop (i * 4)).take 4 = tC n
  | [], i, n, h => by simp at h
  | m :: ns, 0, n, h => by simp at h; subst h; rfl
  | m :: ns, i + 1, n, h => by
    have ih := tcs_at ns i n (by simpa using h)
    show ((tC m ++ tcs ns).drop ((i + 1) * 4)).take 4 = _
    rw [show (i + 1) * 4 = 4 + i * 4 by omega, ← List.drop_drop]
    exact ih
theorem tcs_set : ∀ (ns : List Tl) (i : Nat) (n : Tl), i < ns.length → spl (tcs ns) (tC n) (i * 4) = tcs (ns.set i n)
  | [], i, n, h => by simp at h
  | m :: ns, 0, n, h => by
    show spl (tC m ++ tcs ns) (tC n) 0 = tC n ++ tcs ns
    simp [spl, tC, c4]
  | m :: ns, i + 1, n, h => by
    have ih := tcs_set ns i n (by simpa using h)
    show spl (tC m ++ tcs ns) (tC n) ((i + 1) * 4) = tC m ++ tcs (ns.set i n)
    rw [← ih]
    have e : (i + 1) * 4 = i * 4 + 4 := by omega
    unfold spl
    rw [e]
    have e2 : i * 4 + 4 + (tC n).length = (i * 4 + (tC n).length) + 4 := by omega
    rw [e2]
    simp [tC, c4]
/-- What is known of a slice's type and its element's. -/
theorem info_some {P : Program} {t : TypeId} {z : Option Value} {s b : Nat} (h : (P.info? t).map (fun i => (i.zero, i.size, i.bytes)) = some (z, s, b)) : ∃ i, P.info? t = some i ∧ i.zero = z ∧ i.size = s ∧ i.bytes = b := by
  cases hi : P.info? t with
  | none => simp [hi] at h
  | some i => simp [hi] at h; exact ⟨i, rfl, h.1, h.2.1, h.2.2⟩


end Go.Proofs.YtnlpgkfmjlljdabDoor
