/-
  A range over a function that hands out what lies in memory: at each round the body is told what lies there, and the function what the body has left as it was.
-/
import Derived.Test.YtabpfbankinojaaIs
namespace Go.Proofs.Ytabpfbankinojaa
open Go.RowKit Go.Shelf
set_option linter.unusedVariables false

section
variable {F : Fence} {n : Nat} {P : Program}
/-- What a function that is ranged over does: R: what it sees to when it hands out x behind pre; Kp: what it asks of a round that goes on. -/
def SeqR {α : Type} (F : Fence) (n : Nat) (P : Program) (g : Nat) (lb : Array Value) (encs : α → Array Value) (R : List α → α → World → Prop) (Kp : α → World → World → Prop) (S Sp : List α → Prop) (w : World) : Prop :=
  ∀ (l : Nat) (J Jx : List α → World → Prop) (W : World), Below w.heap.size w W → AbidesFrom W.heap.size J → AbidesFrom W.heap.size Jx →
    (∀ pre x W1, J pre W1 → R pre x W1 → YieldAt F (n - 1) P l (encs x) W1 fun e W' => (e = .returned (.bool true) ∧ J (pre ++ [x]) W' ∧ Kp x W1 W') ∨ (e = .returned (.bool false) ∧ Jx (pre ++ [x]) W')) →
    J [] W → CallsIn F n P g (#[.func (.yield l) #[] #[]] ++ lb) W fun e W' => (∃ v, e = .returned v) ∧ ((∃ xs, S xs ∧ J xs W') ∨ (∃ pre, Sp pre ∧ Jx pre W'))

/-- The loop's record. -/
def lrec (fn : FuncId) (tmps : Array Value) (ps : Array Tmp) (assign body : Code) (D : Nat) (st : LoopState) (pe : Option Code) : Loop :=
  { state := st, pending := pe, fn := fn, tmps := tmps, params := ps, assign := assign, body := body, defers := D }
/-- The record lies behind the block for what is deferred. -/
structure Bk (r : Loop) (D : Nat) (W : World) : Prop where
  loop : W.heap[D + 1]? = some (.loop r)
  mark : W.heap[D]? = some (.deferred (some []))
theorem Bk.keep {r : Loop} {D : Nat} {W W' : World} (h : Bk r D W) (k : KeepsFrom D W W') : Bk r D W' :=
  ⟨k.same _ _ (by omega) h.loop rfl, k.same _ _ (Nat.le_refl _) h.mark rfl⟩
theorem Bk.put {r : Loop} {D : Nat} {W : World} (h : Bk r D W) (r' : Loop) : Bk r' D (W.putObj (D + 1) (.loop r')) :=
  ⟨World.putObj_heap_same (Array.getElem?_eq_some_iff.1 h.loop).1, (World.putObj_heap_other (by omega)).trans h.mark⟩
theorem Bk.abide {r : Loop} {D B : Nat} {W W' : World} {row : Option Nat} (h : Bk r D W) (hg : W.grownBy W' row) (hr : ∀ q, row = some q → B ≤ q ∧ ∃ o : Obj, W.heap[q]? = some o ∧ o.isWalk = true) : Bk r D W' :=
  ⟨(grownBy_keeps hg (fun q e => (hr q e).2) h.loop rfl).trans h.loop, (grownBy_keeps hg (fun q e => (hr q e).2) h.mark rfl).trans h.mark⟩
theorem Bk.new (w : World) (r : Loop) : Bk r w.heap.size ((w.alloc (.deferred (some []))).alloc (.loop r)) := by
  constructor
  · have := World.alloc_heap_new (w.alloc (.deferred (some []))) (.loop r)
    rwa [World.size_alloc] at this
  · exact (Below.heap_alloc _ _ _ (by simp)).trans (World.alloc_heap_new w _)

/-- One round: what the body leaves is what yield hands back. -/
theorem round_R {m : Nat} {fn : FuncId} {tmps : Array Value} {ps : Array Tmp} {assign body : Code} {D : Nat} (hfn : F.fn fn) {args : Array Value} (hps : args.size = ps.size) {W : World} (hB : Bk (lrec fn tmps ps assign body D .ready none) D W) {a' : Act} {Post : Ending → World → Prop}
    (hassign : ∀ K : Act → World → Prop, K a' W → assign.wpIn (F.inRound (D + 1)) m P (Exit.then K (fun _ _ _ => False)) { tmps := (ps.zip args).foldl (fun t (p, v) => t.setIfInBounds p v) tmps, defers := [] } W)
    (hbody : body.wpIn (F.inRound (D + 1)) m P (fun e _ W' => match e with
      | .normal => Bk (lrec fn tmps ps assign body D .busy none) D W' ∧ Post (.returned (.bool true)) (W'.putObj (D + 1) (.loop (lrec fn tmps ps assign body D .ready none)))
      | .ret => Bk (lrec fn tmps ps assign body D .busy none) D W' ∧ Post (.returned (.bool false)) (W'.putObj (D + 1) (.loop (lrec fn tmps ps assign body D .done (some .ret))))
      | .exit id => Bk (lrec fn tmps ps assign body D .busy none) D W' ∧ Post (.returned (.bool false)) (W'.putObj (D + 1) (.loop (lrec fn tmps ps assign body D .done (some (.exit id)))))
      | .goto u => Bk (lrec fn tmps ps assign body D .busy none) D W' ∧ Post (.returned (.bool false)) (W'.putObj (D + 1) (.loop (lrec fn tmps ps assign body D .done (some (.goto u)))))
      | _ => False) a' (W.putObj (D + 1) (.loop (lrec fn tmps ps assign body D .busy none)))) :
    YieldAt F m P (D + 1) args W Post := by
  refine ⟨fn, _, assign, body, run_yield (P := P) (args := args) hB.loop hps, roundIn_of_wpIn hfn (hassign _ ?_)⟩
  refine ⟨_, run_beginRound hB.loop rfl, wpIn_mono hbody ?_⟩
  intro e a3 W3 hp
  cases e with
  | normal => exact ⟨_, _, run_endRound none hp.1.loop, hp.2⟩
  | ret => exact ⟨_, _, run_endRound (some .ret) hp.1.loop, hp.2⟩
  | exit id => exact ⟨_, _, run_endRound (some (.exit id)) hp.1.loop, hp.2⟩
  | goto u => exact ⟨_, _, run_endRound (some (.goto u)) hp.1.loop, hp.2⟩
  | panic ch => exact hp.elim
  | outgrown => exact hp.elim

theorem rangeR {α : Type} {g : Operand} {ps : Array Tmp} {assign body : Code} {Q : Exit → Act → World → Prop} {a : Act} {w : World}
    (hro : F.round = none) (h1 : 1 ≤ n) {gf : Nat} {lb : Array Value} (hg : a.eval g = .func (.func gf) #[] lb) (hFg : F.fn gf) (eg : ∀ args w, (callFunc gf args).run P w = .ok (.enter gf args) w)
    {encs : α → Array Value} {R : List α → α → World → Prop} {Kp : α → World → World → Prop} {S Sp : List α → Prop} (hseq : SeqR F (n - 1) P gf lb encs R Kp S Sp w)
    (hKt : ∀ {x : α} {A B C : World}, Kp x A B → Kp x B C → Kp x A C) (hKb : ∀ (x : α) (W : World) (l : Nat) (o o' : Obj), w.heap.size ≤ l → W.heap[l]? = some o → o.isCells = false → Kp x W (W.putObj l o')) (hps : ∀ x, (encs x).size = ps.size)
    (hR : ∀ pre x, OwnFrom w.heap.size (fun (_ : Unit) W => R pre x W))
    (I : List α → World → Prop) (Ix : Code → List α → World → Prop) (hI : OwnFrom w.heap.size I) (hIx : ∀ c, OwnFrom w.heap.size (Ix c)) (h0 : I [] w) (a₁ : α → Act)
    (hassign : ∀ (l : Nat) (x : α) (W : World) (K : Act → World → Prop), K (a₁ x) W →
      assign.wpIn (F.inRound l) (n - 1 - 1) P (Exit.then K (fun _ _ _ => False)) { tmps := (ps.zip (encs x)).foldl (fun t (p, v) => t.setIfInBounds p v) a.tmps, defers := [] } W)
    (hbody : ∀ (l : Nat) (pre : List α) (x : α) (W : World), I pre W → R pre x W → body.wpIn (F.inRound l) (n - 1 - 1) P (ownPostG w.heap.size (Kp x) I Ix (pre ++ [x]) W) (a₁ x) W)
    (hdone : ∀ (D : Nat) (xs : List α) (W : World), w.heap.size ≤ D → S xs → I xs W → W.heap[D]? = some (.deferred (some [])) → Q .normal { a with defers := { target := .collected D, args := #[] } :: a.defers } W)
    (hstop : ∀ (D : Nat) (c : Code) (pre : List α) (W : World), w.heap.size ≤ D → Sp pre → Ix c pre W → W.heap[D]? = some (.deferred (some [])) → c.wpIn F n P Q { a with defers := { target := .collected D, args := #[] } :: a.defers } W) :
    (Code.rangeFunc g ps assign body).wpIn F n P Q a w := by
  refine wpIn_rangeFunc fun fn hfn => ?_
  rw [hro]
  obtain ⟨W1, hW1⟩ : ∃ W1, (w.alloc (.deferred (some []))).alloc (.loop (lrec fn a.tmps ps assign body w.heap.size .ready none)) = W1 := ⟨_, rfl⟩
  have B1 : Bk (lrec fn a.tmps ps assign body w.heap.size .ready none) w.heap.size W1 := by rw [← hW1]; exact Bk.new w _
  have b1 : Below w.heap.size w W1 := by rw [← hW1]; exact ((Below.refl _ w).alloc (Nat.le_refl _) _).alloc (by simp) _
  have s1 : w.heap.size ≤ W1.heap.size := b1.size
  have far : ∀ {A : World} {row : Option Nat}, (∀ r, row = some r → W1.heap.size ≤ r ∧ ∃ o : Obj, A.heap[r]? = some o ∧ o.isWalk = true) → ∀ r, row = some r → w.heap.size ≤ r ∧ ∃ o : Obj, A.heap[r]? = some o ∧ o.isCells = false :=
    fun hr r e => by obtain ⟨hb, o, ho, hw⟩ := hr r e; exact ⟨by omega, o, ho, Obj.not_cells_of_walk hw⟩
  refine ⟨w.heap.size + 1, [{ target := .collected w.heap.size, args := #[] }], W1, { target := .fn (.func gf) lb, args := #[.func (.yield (w.heap.size + 1)) #[] #[]] }, W1, gf,
    #[.func (.yield (w.heap.size + 1)) #[] #[]] ++ lb, W1, by rw [← hW1]; exact run_enterLoop_outer _ _ _ _ _, by simp only [resolve, hg]; simp [go_sem], fun f' hf' => by simp [Target.leads] at hf'; subst hf'; exact hFg, by simp [invoke, go_sem, eg], fun _ => h1, ?_⟩
  refine (hseq (w.heap.size + 1) (fun pre W => I pre W ∧ Bk (lrec fn a.tmps ps assign body w.heap.size .ready none) w.heap.size W) (fun pre W => ∃ c, Ix c pre W ∧ Bk (lrec fn a.tmps ps assign body w.heap.size .done (some c)) w.heap.size W) W1 b1
    (fun s A B row hs hg' hr => ⟨hI s A B row hs.1 hg' (far hr), hs.2.abide hg' hr⟩)
    (fun s A B row hs hg' hr => by obtain ⟨c, hc, hb⟩ := hs; exact ⟨c, hIx c s A B row hc hg' (far hr), hb.abide hg' hr⟩) ?_
    ⟨by rw [← hW1]; exact hI.alloc _ (hI.alloc _ h0), B1⟩).mono ?_
  · rintro pre x W ⟨hi, hB⟩ hr
    refine round_R hfn (hps x) hB (hassign _ x W) ?_
    have hB2 := hB.put (lrec fn a.tmps ps assign body w.heap.size .busy none)
    have hK2 : Kp x W (W.putObj (w.heap.size + 1) (.loop (lrec fn a.tmps ps assign body w.heap.size .busy none))) := hKb x _ _ _ _ (by omega) hB.loop rfl
    refine wpIn_mono (hbody _ pre x _ (hI.putObj _ hi (by omega) hB.loop rfl) ((hR pre x).putObj (s := ()) _ hr (by omega) hB.loop rfl)) ?_
    intro e a3 W3 hp
    cases e with
    | normal =>
      have hB3 := hB2.keep hp.1
      exact ⟨hB3, .inl ⟨rfl, ⟨hI.putObj _ hp.2.2 (by omega) hB3.loop rfl, hB3.put _⟩, hKt hK2 (hKt hp.2.1 (hKb x _ _ _ _ (by omega) hB3.loop rfl))⟩⟩
    | ret =>
      have hB3 := hB2.keep hp.1
      exact ⟨hB3, .inr ⟨rfl, .ret, (hIx _).putObj _ hp.2 (by omega) hB3.loop rfl, hB3.put _⟩⟩
    | exit id =>
      have hB3 := hB2.keep hp.1
      exact ⟨hB3, .inr ⟨rfl, .exit id, (hIx _).putObj _ hp.2 (by omega) hB3.loop rfl, hB3.put _⟩⟩
    | goto u =>
      have hB3 := hB2.keep hp.1
      exact ⟨hB3, .inr ⟨rfl, .goto u, (hIx _).putObj _ hp.2 (by omega) hB3.loop rfl, hB3.put _⟩⟩
    | panic ch => exact hp.elim
    | outgrown => exact hp.elim
  · rintro e W2 ⟨⟨v, rfl⟩, (⟨xs, hS, hi, hB⟩ | ⟨pre, hSp, c, hi, hB⟩)⟩
    · exact ⟨none, _, run_endLoop (P := P) hB.loop (by simp [lrec]), hdone _ xs _ (Nat.le_refl _) hS (hI.putObj _ hi (by omega) hB.loop rfl) ((World.putObj_heap_other (by omega)).trans hB.mark)⟩
    · exact ⟨some c, _, run_endLoop (P := P) hB.loop (by simp [lrec]), hstop _ c pre _ (Nat.le_refl _) hSp ((hIx c).putObj _ hi (by omega) hB.loop rfl) ((World.putObj_heap_other (by omega)).trans hB.mark)⟩
end

end Go.Proofs.Ytabpfbankinojaa
