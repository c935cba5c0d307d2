/-
  append that tells where the new slice lies; two slices of the call's own, side by side.
-/
import Derived.Test.YtnlpgkfmjlljdaaDoorOw
import Derived.Deep.AppendLies
namespace Go.Proofs.YtnlpgkfmjlljdaaDoor
open Go.RowKit
set_option linter.unusedVariables false

theorem wp_appendL {o : Oper} {K : Act → World → Prop} {s x : Operand} {a : Act} {w : World} {Q : Exit → Act → World → Prop}
    {B : Nat} {v : Value} {xs : List Int} {sa : Option Addr} {m c : Nat} {ys : List Int}
    (ho : o.op = .call { callee := .builtin .append, args := #[s, x], argTypes := #[36, 36] }) (hs : a.eval s = v) (hx : a.eval x = .slice sa m c) (hown : Own w B v xs) (hy : Sl w sa m c ys)
    (hm : 0 < m) (hlen : xs.length + m ≤ 140737488355328) (hB : B ≤ w.heap.size)
    (h : ∀ g cap w', Own w' B (.slice (some ⟨g, 0, none⟩) (xs.length + m) cap) (xs ++ ys) → w.grownBy w' v.ownBlock → (v.ownBlock = some g ∨ g = w.heap.size) → K (a.put o.dst (.slice (some ⟨g, 0, none⟩) (xs.length + m) cap)) w') : Oper.wp Tryd.prog o a w K Q := by
  obtain ⟨i0, hi, hz0, hz1, hz2⟩ := info_parts infoB
  obtain ⟨b, off, e, hc⟩ := hy.hcell hm
  subst e
  refine wp_append_lies _ s x 36 ho B 5 i0 (.int .u8 0) 1 1 undBs hi hz0 hz1 hz2 rfl (by decide) v _ _ hs hown ⟨b, off, none⟩ m c (u8s ys) hx (by simp [u8s_length, hy.hlen]) ?_ (One.u8 ys) hm ?_ ?_ hB _ rfl ?_
  · intro j u hu
    have hj : j < m := by
      have := (List.getElem?_eq_some_iff.1 hu).1
      simpa [u8s_length, hy.hlen] using this
    rw [Addr.add_lit, hc j hj]
    rw [u8s_get ys j (by rw [hy.hlen]; exact hj)] at hu
    exact hu
  · unfold maxLen; omega
  · omega
  · intro g cap w' h1 h2 h3 _
    have hl : (xs ++ ys).length = xs.length + m := by rw [List.length_append, hy.hlen]
    exact h g cap w' (by unfold Own; rw [hl, u8s_app]; exact h1) h2 h3

theorem step_appendL {dst : Option Tmp} {s x : Operand} {ty : TypeId} {pos : String} {aft : Array Edge} {gd : Option (Nat × Bool)} {ops : Array Oper} {rest : List Oper} {a : Act} {w : World} {Q : Exit → Act → World → Prop}
    {B : Nat} {v : Value} {xs : List Int} {sa : Option Addr} {m c : Nat} {ys : List Int}
    (hw : Region.wanted ⟨dst, .call { callee := .builtin .append, args := #[s, x], argTypes := #[36, 36] }, ty, pos, aft, gd⟩ (yielded ops a.tmps) = true)
    (hs : a.eval s = v) (hx : a.eval x = .slice sa m c) (hown : Own w B v xs) (hy : Sl w sa m c ys)
    (hm : 0 < m) (hlen : xs.length + m ≤ 140737488355328) (hB : B ≤ w.heap.size)
    (h : ∀ g cap w', Own w' B (.slice (some ⟨g, 0, none⟩) (xs.length + m) cap) (xs ++ ys) → w.grownBy w' v.ownBlock → (v.ownBlock = some g ∨ g = w.heap.size) → wpList Tryd.prog ops Q rest (a.put dst (.slice (some ⟨g, 0, none⟩) (xs.length + m) cap)) w') :
    wpList Tryd.prog ops Q (⟨dst, .call { callee := .builtin .append, args := #[s, x], argTypes := #[36, 36] }, ty, pos, aft, gd⟩ :: rest) a w :=
  BigFrame.wpList_want hw fun K hK => wp_appendL rfl hs hx hown hy hm hlen hB fun g cap w' h1 h2 h3 => hK _ _ (h g cap w' h1 h2 h3)

/-- Two slices of the call's own that share no row. -/
structure Own2 (w : World) (B : Nat) (u v : Value) (xs ys : List Int) : Prop where
  a : Own w B u xs
  b : Own w B v ys
  ne : u.ownBlock = none ∨ u.ownBlock ≠ v.ownBlock
theorem Own2.swap {w : World} {B : Nat} {u v : Value} {xs ys : List Int} (h : Own2 w B u v xs ys) : Own2 w B v u ys xs :=
  ⟨h.b, h.a, by
    rcases h.ne with e | e
    · cases hv : v.ownBlock with
      | none => exact .inl rfl
      | some k => right; rw [e]; intro h; cases h
    · exact .inr fun h => e h.symm⟩
theorem Own2.alloc {w : World} {B : Nat} {u v : Value} {xs ys : List Int} (h : Own2 w B u v xs ys) (o : Obj) : Own2 (w.alloc o) B u v xs ys := ⟨h.a.alloc o, h.b.alloc o, h.ne⟩
theorem Own2.below {w w' : World} {B : Nat} {u v : Value} {xs ys : List Int} (h : Own2 w B u v xs ys) (hb : Below w.heap.size w w') : Own2 w' B u v xs ys := ⟨h.a.below hb, h.b.below hb, h.ne⟩
theorem Own2.grow {w w' : World} {B : Nat} {u v : Value} {xs ys zs : List Int} {g n cap : Nat} (h : Own2 w B u v xs ys) (ho : Own w' B (.slice (some ⟨g, 0, none⟩) n cap) zs) (hg : w.grownBy w' u.ownBlock) (hl : u.ownBlock = some g ∨ w.heap.size ≤ g) :
    Own2 w' B (.slice (some ⟨g, 0, none⟩) n cap) v zs ys := by
  have hne : v.ownBlock = none ∨ v.ownBlock ≠ u.ownBlock := h.swap.ne
  refine ⟨ho, World.ownsRow.kept h.b hg hne, ?_⟩
  right
  show some g ≠ v.ownBlock
  rcases hl with e | e
  · rw [← e]
    rcases h.ne with e2 | e2
    · rw [e2] at e; cases e
    · exact e2
  · intro hv
    have := (World.ownsRow.lt h.b g hv.symm).2
    omega
theorem Own2.other {w w' : World} {B : Nat} {u v : Value} {xs ys : List Int} (h : Own2 w B u v xs ys) (hg : w.grownBy w' u.ownBlock) : Own w' B v ys := World.ownsRow.kept h.b hg h.swap.ne
theorem one_slB (w : World) (x : Int) (hx : 0 ≤ x ∧ x ≤ 255) : Sl (w.alloc (.cells #[.int .u8 x] 5)) (some ⟨w.heap.size, 0, none⟩) 1 1 [x] :=
  (Blk.made w 5 (u8s [x])).sl0 (by intro y hy; simp at hy; omega) (by simp)

end Go.Proofs.YtnlpgkfmjlljdaaDoor
