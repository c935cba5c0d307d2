/-
  What a loop's body over a function may turn; a range over a function whose variable lies in a block of its own (the texts of Ra and Rr, for seats that have no ranges of digests).
-/
import Derived.Test.YtnlpgkfmjlljdabDoorIs
namespace Go.Proofs.YtnlpgkfmjlljdabDoor
open Go.RowKit Go.Shelf
set_option linter.unusedVariables false

/-- What a loop's body may turn: blocks of its own (M), and new ones. -/
structure KM (M : World → Nat → Prop) (A B : World) : Prop where
  size : A.heap.size ≤ B.heap.size
  keep : ∀ k o, A.heap[k]? = some o → o.isCells = true → ¬ M A k → B.heap[k]? = some o
  mine : ∀ k, k < A.heap.size → M B k → M A k
theorem KM.trans {M : World → Nat → Prop} {A B C : World} (h : KM M A B) (k : KM M B C) : KM M A C :=
  ⟨Nat.le_trans h.size k.size, fun i o hi ho hm => k.keep i o (h.keep i o hi ho hm) ho (fun hb => hm (h.mine i (Array.getElem?_eq_some_iff.1 hi).1 hb)), fun i hi hm => h.mine i hi (k.mine i (Nat.lt_of_lt_of_le hi h.size) hm)⟩
/-- Blocks that are told by what lay there at the loop's beginning. -/
structure Mine (n₀ : Nat) (M : World → Nat → Prop) : Prop where
  below : ∀ A B, n₀ ≤ A.heap.size → Below A.heap.size A B → ∀ k, k < A.heap.size → M B k → M A k
  put : ∀ A l o, n₀ ≤ l → l < A.heap.size → ∀ k, k < A.heap.size → M (A.putObj l o) k → M A k
/-- Of what was laid behind w none is among them. -/
def Fresh (w : World) (M : World → Nat → Prop) : Prop := ∀ A, Below w.heap.size w A → ∀ k, M A k → k < w.heap.size
theorem KM.book {n₀ : Nat} {M : World → Nat → Prop} (hM : Mine n₀ M) {w : World} (hn : n₀ ≤ w.heap.size) (W : World) (l : Nat) (o o' : Obj) (hl : w.heap.size ≤ l) (h : W.heap[l]? = some o) (hc : o.isCells = false) (_ : o.isWalk = false) : KM M W (W.putObj l o') :=
  ⟨(grownBy_putObj' W l o').size, fun k q hk hq _ => by
    have hne : k ≠ l := fun e => by
      subst e
      rw [h] at hk
      injection hk with hk
      subst hk
      rw [hc] at hq
      cases hq
    rw [World.putObj_heap_other hne]
    exact hk, fun k hk hm => hM.put W l o' (Nat.le_trans hn hl) (Array.getElem?_eq_some_iff.1 h).1 k hk hm⟩
/-- One block. -/
theorem Mine.one {n₀ g : Nat} (h : g < n₀) : Mine n₀ (fun A k => k = g ∧ k < A.heap.size) :=
  ⟨fun A B hn _ k hk hm => ⟨hm.1, hk⟩, fun A l o hl hlt k hk hm => ⟨hm.1, hk⟩⟩
theorem Fresh.one {w : World} {g : Nat} (h : g < w.heap.size) : Fresh w (fun A k => k = g ∧ k < A.heap.size) := fun A _ k hm => by have := hm.1; omega
theorem km_below {n₀ : Nat} {M : World → Nat → Prop} (hM : Mine n₀ M) {A B : World} (hn : n₀ ≤ A.heap.size) (h : Below A.heap.size A B) : KM M A B :=
  ⟨h.size, fun k o hk _ _ => (h.block k (Array.getElem?_eq_some_iff.1 hk).1).trans hk, fun k hk hm => hM.below A B hn h k hk hm⟩
theorem km_one {g : Nat} {A B : World} (h : But g A B) (hlt : g < A.heap.size) : KM (fun A k => k = g ∧ k < A.heap.size) A B :=
  ⟨Nat.le_of_eq h.size.symm, fun k o hk _ hm => (h.block k (fun e => hm ⟨e, by omega⟩)).trans hk, fun k hk hm => ⟨hm.1, hk⟩⟩
theorem keepsO_below {A B : World} (h : Below A.heap.size A B) : KeepsOthers A B := ⟨h.size, fun k o hk _ => (h.block k (Array.getElem?_eq_some_iff.1 hk).1).trans hk⟩
theorem keepsO_but {g : Nat} {t : TypeId} {cs : List Value} {A B : World} (h : But g A B) (hg : Blk A g t cs) : KeepsOthers A B := ⟨Nat.le_of_eq h.size.symm, fun k o hk hc => (h.block k (fun e => by
  subst e
  rw [hg] at hk
  injection hk with hk
  subst hk
  cases hc)).trans hk⟩
theorem grown_none {A B : World} (h : Below A.heap.size A B) : A.grownBy B none := ⟨h.os, h.tape, h.output, h.size, fun k hk _ => h.block k hk⟩

theorem meas_lt {k n : Nat} (h : k < n) : n - (intOf (.int .i64 ((k : Int) + 1))).toNat < n - (intOf (.int .i64 (k : Int))).toNat := by
  simp only [intOf]
  omega
theorem range_pre {k n : Nat} (h : k ≤ n) : List.range k <+: List.range n := by
  obtain ⟨d, rfl⟩ : ∃ d, n = k + d := ⟨n - k, by omega⟩
  rw [List.range_add]
  exact List.prefix_append _ _
theorem Blk.kept {A B : World} {g : Nat} {t : TypeId} {cs : List Value} {row : Option Nat} (h : Blk A g t cs) (hg : A.grownBy B row) (hr : ∀ r, row = some r → ∃ o : Obj, A.heap[r]? = some o ∧ o.isCells = false) : Blk B g t cs := by
  have e : B.heap[g]? = A.heap[g]? := hg.block g h.lt (fun e => by
    obtain ⟨o, ho, hc⟩ := hr g e.symm
    rw [h] at ho
    injection ho with ho
    subst ho
    cases hc)
  unfold Blk
  rw [e]
  exact h
theorem range1 {F : Fence} {n : Nat} {P : Program} {α : Type} {g : Operand} {ps : Array Tmp} {assign body : Code} {Q : Exit → Act → World → Prop} {a : Act} {w : World}
    (hro : F.round = none) (h1 : 1 ≤ n) {gf : Nat} {lb : Array Value} (hg : a.eval g = .func (.func gf) #[] lb) (hFg : F.fn gf) (eg : ∀ args w, (callFunc gf args).run P w = .ok (.enter gf args) w)
    {encs : α → Array Value} {Kp : World → World → Prop} {S Sp : List α → Prop} {N : Nat} (hseq : SeqStopsK F (n - 1) P gf lb encs Kp S Sp N w)
    (hKt : ∀ {A B C : World}, Kp A B → Kp B C → Kp A C) (hKb : ∀ (W : World) (l : Nat) (o o' : Obj), w.heap.size ≤ l → W.heap[l]? = some o → o.isCells = false → o.isWalk = false → Kp W (W.putObj l o')) (hKs : ∀ A B, w.heap.size ≤ A.heap.size → Below A.heap.size A B → Kp A B) (hps : ∀ x, (encs x).size = ps.size)
    (I : List α → World → Prop) (Ix : Code → List α → World → Prop) (hI : OwnFrom w.heap.size I) (hIs : ∀ pre A, I pre A → w.heap.size ≤ A.heap.size) (hIx : ∀ c, OwnFrom w.heap.size (Ix c)) (h0 : I [] w) (t1 : TypeId) (c1 : α → List Value) (a₁ : α → Nat → Act)
    (hassign : ∀ (l : Nat) (x : α) (W : World) (K : Act → World → Prop), (∀ g1 W', Below W.heap.size W W' → Blk W' g1 t1 (c1 x) → K (a₁ x g1) W') →
      assign.wpIn (F.inRound l) (n - 1 - 1) P (Exit.then K (fun _ _ _ => False)) { tmps := (ps.zip (encs x)).foldl (fun t (p, v) => t.setIfInBounds p v) a.tmps, defers := [] } W)
    (hbody : ∀ (l : Nat) (pre : List α) (x : α) (g1 : Nat) (W : World), I pre W → Blk W g1 t1 (c1 x) → pre.length < N → body.wpIn (F.inRound l) (n - 1 - 1) P (ownPostG w.heap.size Kp I Ix (pre ++ [x]) W) (a₁ x g1) W)
    (hdone : ∀ (D : Nat) (xs : List α) (W : World), w.heap.size ≤ D → S xs → I xs W → W.heap[D]? = some (.deferred (some [])) → Q .normal { a with defers := { target := .collected D, args := #[] } :: a.defers } W)
    (hstop : ∀ (D : Nat) (c : Code) (pre : List α) (W : World), w.heap.size ≤ D → Sp pre → Ix c pre W → W.heap[D]? = some (.deferred (some [])) → c.wpIn F n P Q { a with defers := { target := .collected D, args := #[] } :: a.defers } W) :
    (Code.rangeFunc g ps assign body).wpIn F n P Q a w :=
  wpIn_rangeFunc_ownH hro h1 hg hFg eg hseq (fun h k => hKt h k) hKb (Below.refl _ _) hps I Ix hI hIx h0 (fun x a' W => ∃ g1, a' = a₁ x g1 ∧ Blk W g1 t1 (c1 x))
    (fun x a' _ A B row h hg hr => by obtain ⟨g1, e1, b1⟩ := h; exact ⟨g1, e1, b1.kept hg (fun r e => (hr r e).2)⟩)
    (fun l pre x W K hi hK => hassign l x W K fun g1 W' hb b1 => hK _ _ ((keepsO_below hb).from _) (hKs _ _ (hIs _ _ hi) hb) (hI _ _ _ none hi (grown_none hb) (fun r e => by cases e)) ⟨g1, rfl, b1⟩)
    (fun l pre x a' W _ _ hi ha hl => by obtain ⟨g1, rfl, b1⟩ := ha; exact hbody l pre x g1 W hi b1 hl) hdone hstop


/-- A region that draws its order and only reads, inside a round: one walk serves every order. -/
def noDefer (o : Oper) : Bool := match o.op with
  | .defer _ => false
  | _ => true
section
variable {F : Fence} {n : Nat} {P : Program} {ops : Array Oper} {md : Region.Mode} {C : World → Prop}
theorem wpOpIn_of_qOp (hF : WideF F) (hd : ops.all noDefer = true) {i : Nat} {a : Act} {K : Act → Prop} {K' : Act → World → Prop} {Q' : Exit → Act → World → Prop} {w : World} (hC : C w) (h : ∀ a w', C w' → K a → K' a w') (hh : qOp P ops C i K a) : wpOpIn F n P ops Q' i K' a w := by
  unfold qOp at hh
  unfold wpOpIn
  split
  · rename_i ho; simp only [ho] at hh; exact h _ _ hC hh
  · rename_i o ho
    simp only [ho] at hh
    split
    · rename_i hw
      simp only [hw, if_true] at hh
      refine lift_op hF (fun c hc => ?_) (Oper.wp_of_quiet hC h hh)
      have h1 := Array.all_eq_true.1 hd
      obtain ⟨hi, he⟩ := Array.getElem?_eq_some_iff.1 ho
      have h2 := h1 i hi
      rw [he] at h2
      simp [noDefer, hc] at h2
    · rename_i hw; simp only [hw] at hh; exact ⟨fun f _ => hF.fn f, h _ _ hC hh⟩
theorem wpAnyIn_of_quiet (hF : WideF F) (hd : ops.all noDefer = true) {Q : Act → Prop} {Q' : Exit → Act → World → Prop} (hQ : ∀ a w, C w → Q a → Q' .normal a w) : ∀ (fuel : Nat) (listed : Array Bool) (a : Act) (w : World), C w →
    wpAnyQ P md ops C Q fuel listed a → wpAnyIn F n P md ops Q' fuel listed a w
  | 0, _, _, _, hw, h => ⟨h.1, hQ _ _ hw h.2⟩
  | fuel + 1, _, _, _, hw, h => ⟨fun h0 => hQ _ _ hw (h.1 h0), fun i hi => wpOpIn_of_qOp hF hd hw (fun a' w' hw' => wpAnyIn_of_quiet hF hd hQ fuel _ a' w' hw') (h.2 i hi)⟩
theorem wpIn_region_round {l : List Oper} {id : Nat} {Q : Exit → Act → World → Prop} {a : Act} {w : World} (hF : WideF F) (hm : P.follows .mixedOrders = true) (hB : Region.lexB .any l.toArray = true) (hd : l.toArray.all noDefer = true)
    (h : wpQuiet P l.toArray (fun w' => ∃ n, w' = w.drewN n) (fun a' => ∀ w', (∃ n, w' = w.drewN n) → Q .normal a' w') l a) : (Code.region id l.toArray true).wpIn F n P Q a w := by
  simp only [Region.lexB, Bool.and_eq_true] at hB
  refine wpIn_region_any hm (wpAnyIn_of_quiet hF hd (C := fun w' => ∃ n, w' = w.drewN n) (Q := fun a' => ∀ w', (∃ n, w' = w.drewN n) → Q .normal a' w') (fun _ w' hw' h => h w' hw') _ _ _ _ ⟨1, rfl⟩ ?_)
  have := wpAnyQ_lex (P := P) (C := fun w' => ∃ n, w' = w.drewN n) (md := .any) hB.1 l 0 (Array.replicate l.toArray.size false) a (by simp) (by simpa using hB.2) h
  simpa using this
end

end Go.Proofs.YtnlpgkfmjlljdabDoor
