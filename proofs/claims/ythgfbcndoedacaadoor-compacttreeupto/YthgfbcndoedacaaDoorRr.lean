/-
  A range over a function whose variables lie in blocks of their own.
-/
import Derived.Test.YthgfbcndoedacaaDoorRa
namespace Go.Proofs.YthgfbcndoedacaaDoor
open Go.RowKit Go.Shelf
set_option linter.unusedVariables false

theorem Blk.kept {A B : World} {g : Nat} {t : TypeId} {cs : List Value} {row : Option Nat} (h : Blk A g t cs) (hg : A.grownBy B row) (hr : ∀ r, row = some r → ∃ o : Obj, A.heap[r]? = some o ∧ o.isCells = false) : Blk B g t cs := by
  have e : B.heap[g]? = A.heap[g]? := hg.block g h.lt (fun e => by
    obtain ⟨o, ho, hc⟩ := hr g e.symm
    rw [h] at ho
    injection ho with ho
    subst ho
    cases hc)
  unfold Blk
  rw [e]
  exact h
theorem KT.kept {A B : World} {row : Option Nat} (h : KT A) (hg : A.grownBy B row) (hr : ∀ r, row = some r → 2 < r) : KT B := fun i hi => by
  rw [World.cell?_of_block (w := A) (hg.block 2 h.lt (fun e => by have := hr _ e.symm; omega))]
  exact h i hi

theorem range1 {F : Fence} {n : Nat} {P : Program} {α : Type} {g : Operand} {ps : Array Tmp} {assign body : Code} {Q : Exit → Act → World → Prop} {a : Act} {w : World}
    (hro : F.round = none) (h1 : 1 ≤ n) {gf : Nat} {lb : Array Value} (hg : a.eval g = .func (.func gf) #[] lb) (hFg : F.fn gf) (eg : ∀ args w, (callFunc gf args).run P w = .ok (.enter gf args) w)
    {encs : α → Array Value} {Kp : World → World → Prop} {S Sp : List α → Prop} {N : Nat} (hseq : SeqStopsK F (n - 1) P gf lb encs Kp S Sp N w)
    (hKt : ∀ {A B C : World}, Kp A B → Kp B C → Kp A C) (hKb : ∀ (W : World) (l : Nat) (o o' : Obj), w.heap.size ≤ l → W.heap[l]? = some o → o.isCells = false → o.isWalk = false → Kp W (W.putObj l o')) (hKs : ∀ A B, w.heap.size ≤ A.heap.size → Below A.heap.size A B → Kp A B) (hps : ∀ x, (encs x).size = ps.size)
    (I : List α → World → Prop) (Ix : Code → List α → World → Prop) (hI : OwnFrom w.heap.size I) (hIs : ∀ pre A, I pre A → w.heap.size ≤ A.heap.size) (hIx : ∀ c, OwnFrom w.heap.size (Ix c)) (h0 : I [] w) (t1 : TypeId) (c1 : α → List Value) (a₁ : α → Nat → Act)
    (hassign : ∀ (l : Nat) (x : α) (W : World) (K : Act → World → Prop), (∀ g1 W', Below W.heap.size W W' → Blk W' g1 t1 (c1 x) → K (a₁ x g1) W') →
      assign.wpIn (F.inRound l) (n - 1 - 1) P (Exit.then K (fun _ _ _ => False)) { tmps := (ps.zip (encs x)).foldl (fun t (p, v) => t.setIfInBounds p v) a.tmps, defers := [] } W)
    (hbody : ∀ (l : Nat) (pre : List α) (x : α) (g1 : Nat) (W : World), I pre W → Blk W g1 t1 (c1 x) → pre.length < N → body.wpIn (F.inRound l) (n - 1 - 1) P (ownPostG w.heap.size Kp I Ix (pre ++ [x]) W) (a₁ x g1) W)
    (hdone : ∀ (D : Nat) (xs : List α) (W : World), w.heap.size ≤ D → S xs → I xs W → W.heap[D]? = some (.deferred (some [])) → Q .normal { a with defers := { target := .collected D, args := #[] } :: a.defers } W)
    (hstop : ∀ (D : Nat) (c : Code) (pre : List α) (W : World), w.heap.size ≤ D → Sp pre → Ix c pre W → W.heap[D]? = some (.deferred (some [])) → c.wpIn F n P Q { a with defers := { target := .collected D, args := #[] } :: a.defers } W) :
    (Code.rangeFunc g ps assign body).wpIn F n P Q a w :=
  wpIn_rangeFunc_ownH hro h1 hg hFg eg hseq (fun h k => hKt h k) hKb (Below.refl _ _) hps I Ix hI hIx h0 (fun x a' W => ∃ g1, a' = a₁ x g1 ∧ Blk W g1 t1 (c1 x))
    (fun x a' _ A B row h hg hr => by obtain ⟨g1, e1, b1⟩ := h; exact ⟨g1, e1, b1.kept hg (fun r e => (hr r e).2)⟩)
    (fun l pre x W K hi hK => hassign l x W K fun g1 W' hb b1 => hK _ _ ((keepsO_below hb).from _) (hKs _ _ (hIs _ _ hi) hb) (hI _ _ _ none hi (grown_none hb) (fun r e => by cases e)) ⟨g1, rfl, b1⟩)
    (fun l pre x a' W _ _ hi ha hl => by obtain ⟨g1, rfl, b1⟩ := ha; exact hbody l pre x g1 W hi b1 hl) hdone hstop

theorem range2 {F : Fence} {n : Nat} {P : Program} {α : Type} {g : Operand} {ps : Array Tmp} {assign body : Code} {Q : Exit → Act → World → Prop} {a : Act} {w : World}
    (hro : F.round = none) (h1 : 1 ≤ n) {gf : Nat} {lb : Array Value} (hg : a.eval g = .func (.func gf) #[] lb) (hFg : F.fn gf) (eg : ∀ args w, (callFunc gf args).run P w = .ok (.enter gf args) w)
    {encs : α → Array Value} {Kp : World → World → Prop} {S Sp : List α → Prop} {N : Nat} (hseq : SeqStopsK F (n - 1) P gf lb encs Kp S Sp N w)
    (hKt : ∀ {A B C : World}, Kp A B → Kp B C → Kp A C) (hKb : ∀ (W : World) (l : Nat) (o o' : Obj), w.heap.size ≤ l → W.heap[l]? = some o → o.isCells = false → o.isWalk = false → Kp W (W.putObj l o')) (hKs : ∀ A B, w.heap.size ≤ A.heap.size → Below A.heap.size A B → Kp A B) (hps : ∀ x, (encs x).size = ps.size)
    (I : List α → World → Prop) (Ix : Code → List α → World → Prop) (hI : OwnFrom w.heap.size I) (hIs : ∀ pre A, I pre A → w.heap.size ≤ A.heap.size) (hIx : ∀ c, OwnFrom w.heap.size (Ix c)) (h0 : I [] w) (t1 t2 : TypeId) (c1 c2 : α → List Value) (a₁ : α → Nat → Nat → Act)
    (hassign : ∀ (l : Nat) (x : α) (W : World) (K : Act → World → Prop), (∀ g1 g2 W', Below W.heap.size W W' → Blk W' g1 t1 (c1 x) → Blk W' g2 t2 (c2 x) → K (a₁ x g1 g2) W') →
      assign.wpIn (F.inRound l) (n - 1 - 1) P (Exit.then K (fun _ _ _ => False)) { tmps := (ps.zip (encs x)).foldl (fun t (p, v) => t.setIfInBounds p v) a.tmps, defers := [] } W)
    (hbody : ∀ (l : Nat) (pre : List α) (x : α) (g1 g2 : Nat) (W : World), I pre W → Blk W g1 t1 (c1 x) → Blk W g2 t2 (c2 x) → pre.length < N → body.wpIn (F.inRound l) (n - 1 - 1) P (ownPostG w.heap.size Kp I Ix (pre ++ [x]) W) (a₁ x g1 g2) W)
    (hdone : ∀ (D : Nat) (xs : List α) (W : World), w.heap.size ≤ D → S xs → I xs W → W.heap[D]? = some (.deferred (some [])) → Q .normal { a with defers := { target := .collected D, args := #[] } :: a.defers } W)
    (hstop : ∀ (D : Nat) (c : Code) (pre : List α) (W : World), w.heap.size ≤ D → Sp pre → Ix c pre W → W.heap[D]? = some (.deferred (some [])) → c.wpIn F n P Q { a with defers := { target := .collected D, args := #[] } :: a.defers } W) :
    (Code.rangeFunc g ps assign body).wpIn F n P Q a w :=
  wpIn_rangeFunc_ownH hro h1 hg hFg eg hseq (fun h k => hKt h k) hKb (Below.refl _ _) hps I Ix hI hIx h0 (fun x a' W => ∃ g1 g2, a' = a₁ x g1 g2 ∧ Blk W g1 t1 (c1 x) ∧ Blk W g2 t2 (c2 x))
    (fun x a' _ A B row h hg hr => by obtain ⟨g1, g2, e1, b1, b2⟩ := h; exact ⟨g1, g2, e1, b1.kept hg (fun r e => (hr r e).2), b2.kept hg (fun r e => (hr r e).2)⟩)
    (fun l pre x W K hi hK => hassign l x W K fun g1 g2 W' hb b1 b2 => hK _ _ ((keepsO_below hb).from _) (hKs _ _ (hIs _ _ hi) hb) (hI _ _ _ none hi (grown_none hb) (fun r e => by cases e)) ⟨g1, g2, rfl, b1, b2⟩)
    (fun l pre x a' W _ _ hi ha hl => by obtain ⟨g1, g2, rfl, b1, b2⟩ := ha; exact hbody l pre x g1 g2 W hi b1 b2 hl) hdone hstop

end Go.Proofs.YthgfbcndoedacaaDoor
