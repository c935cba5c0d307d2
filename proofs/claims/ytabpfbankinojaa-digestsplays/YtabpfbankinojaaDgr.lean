/-
  A range over a function that hands out the values of a list, one by one, and turns rows of its own meanwhile; a round may begin with a variable of its own.
-/
import Derived.Test.YtabpfbankinojaaDgu
import Derived.Test.YtabpfbankinojaaDga
namespace Go.Proofs.Ytabpfbankinojaa
open Go.RowKit Go.Shelf
set_option linter.unusedVariables false

/-- What stands through new memory, books, and changes of rows of one type from B on. -/
def OwnT {β : Type} (t : TypeId) (B : Nat) (J : β → World → Prop) : Prop := ∀ s A C row, J s A → A.grownBy C row → (∀ r, row = some r → B ≤ r ∧ ∃ o : Obj, A.heap[r]? = some o ∧ (o.isCells = false ∨ ∃ cs, Blk A r t cs)) → J s C
theorem OwnT.own {β : Type} {t : TypeId} {B : Nat} {J : β → World → Prop} (h : OwnT t B J) : OwnFrom B J := fun s A C row hs hg hr => h s A C row hs hg (fun r e => ⟨(hr r e).1, by obtain ⟨o, ho, hc⟩ := (hr r e).2; exact ⟨o, ho, .inl hc⟩⟩)
theorem OwnT.below {β : Type} {t : TypeId} {B : Nat} {J : β → World → Prop} (h : OwnT t B J) {s : β} {A C : World} (hs : J s A) (hb : Below A.heap.size A C) : J s C :=
  h s A C none hs ⟨hb.os, hb.tape, hb.output, hb.size, fun i hi _ => hb.block i hi⟩ (fun r e => by cases e)
theorem OwnT.row {β : Type} {t : TypeId} {B : Nat} {J : β → World → Prop} (h : OwnT t B J) {s : β} {A C : World} {g : Nat} {cs : List Value} (hs : J s A) (hb : But g A C) (hg : Blk A g t cs) (hB : B ≤ g) : J s C :=
  h s A C (some g) hs ⟨hb.os, hb.tape, hb.output, Nat.le_of_eq hb.size.symm, fun i hi hn => hb.block i (fun e => hn (by rw [e]))⟩ (fun r e => by
    injection e with e
    subst e
    exact ⟨hB, _, hg, .inr ⟨cs, hg⟩⟩)
theorem Bk.own {r : Loop} {D : Nat} {W W' : World} {row : Option Nat} (h : Bk r D W) (hg : W.grownBy W' row) (hr : ∀ q, row = some q → D + 1 < q) : Bk r D W' :=
  ⟨(hg.block _ (Array.getElem?_eq_some_iff.1 h.loop).1 (fun e => by have := hr _ e.symm; omega)).trans h.loop, (hg.block _ (Array.getElem?_eq_some_iff.1 h.mark).1 (fun e => by have := hr _ e.symm; omega)).trans h.mark⟩
/-- Rows of two types are left. -/
structure KR (t u : TypeId) (A C : World) : Prop where
  size : A.heap.size ≤ C.heap.size
  keep : ∀ (k : Nat) (s : TypeId) (cs : List Value), s = t ∨ s = u → Blk A k s cs → Blk C k s cs
theorem KR.refl (t u : TypeId) (A : World) : KR t u A A := ⟨Nat.le_refl _, fun _ _ _ _ h => h⟩
theorem KR.trans {t u : TypeId} {A C D : World} (h : KR t u A C) (k : KR t u C D) : KR t u A D := ⟨Nat.le_trans h.size k.size, fun i s cs hs ho => k.keep i s cs hs (h.keep i s cs hs ho)⟩
theorem KR.book {t u : TypeId} (W : World) (l : Nat) (o o' : Obj) (h : W.heap[l]? = some o) (hc : o.isCells = false) : KR t u W (W.putObj l o') :=
  ⟨(grownBy_putObj' W l o').size, fun k s cs _ hq => by
    have hne : k ≠ l := fun e => by
      subst e
      rw [hq] at h
      injection h with h
      subst h
      cases hc
    unfold Blk
    rw [World.putObj_heap_other hne]
    exact hq⟩
theorem KR.below {t u : TypeId} {A C : World} (h : Below A.heap.size A C) : KR t u A C := ⟨h.size, fun k s cs _ hk => hk.on h⟩
theorem KR.but {t u : TypeId} {A C : World} {g : Nat} {s : TypeId} {ds : List Value} (h : But g A C) (hg : Blk A g s ds) (ht : s ≠ t) (hu : s ≠ u) : KR t u A C :=
  ⟨Nat.le_of_eq h.size.symm, fun k s' cs hs hk => hk.but h (fun e => by
    subst e
    rw [Blk, hg] at hk
    injection hk with hk
    injection hk with _ h2 _
    rcases hs with rfl | rfl
    · exact ht h2
    · exact hu h2)⟩
theorem KR.grown {t u : TypeId} {A C : World} {g : Nat} {s : TypeId} {ds : List Value} (h : A.grownBy C (some g)) (hg : Blk A g s ds) (ht : s ≠ t) (hu : s ≠ u) : KR t u A C :=
  ⟨h.size, fun k s' cs hs hk => hk.grew h (fun e => by
    injection e with e
    subst e
    rw [Blk, hg] at hk
    injection hk with hk
    injection hk with _ h2 _
    rcases hs with rfl | rfl
    · exact ht h2
    · exact hu h2)⟩
/-- How the body of a round may be left. -/
def postD (B : Nat) (Kp : World → World → Prop) (I : Nat → World → Prop) (Ix : Code → Nat → World → Prop) (i : Nat) (W : World) : Exit → Act → World → Prop
  | .normal, _, W' => KeepsFrom B W W' ∧ Kp W W' ∧ I (i + 1) W'
  | .ret, _, W' => KeepsFrom B W W' ∧ Ix .ret (i + 1) W'
  | .exit id, _, W' => KeepsFrom B W W' ∧ Ix (.exit id) (i + 1) W'
  | .goto t, _, W' => KeepsFrom B W W' ∧ Ix (.goto t) (i + 1) W'
  | .panic _, _, _ => False
  | .outgrown, _, _ => False

section
variable {F : Fence} {n : Nat} {P : Program}
theorem round_A {m : Nat} {fn : FuncId} {tmps : Array Value} {ps : Array Tmp} {assign body : Code} {D : Nat} (hfn : F.fn fn) {args : Array Value} (hps : args.size = ps.size) {W : World} (hB : Bk (lrec fn tmps ps assign body D .ready none) D W) {Post : Ending → World → Prop}
    (hrun : assign.wpIn (F.inRound (D + 1)) m P (Exit.then (fun a' V => Bk (lrec fn tmps ps assign body D .ready none) D V ∧ body.wpIn (F.inRound (D + 1)) m P (fun e _ W' => match e with
      | .normal => Bk (lrec fn tmps ps assign body D .busy none) D W' ∧ Post (.returned (.bool true)) (W'.putObj (D + 1) (.loop (lrec fn tmps ps assign body D .ready none)))
      | .ret => Bk (lrec fn tmps ps assign body D .busy none) D W' ∧ Post (.returned (.bool false)) (W'.putObj (D + 1) (.loop (lrec fn tmps ps assign body D .done (some .ret))))
      | .exit id => Bk (lrec fn tmps ps assign body D .busy none) D W' ∧ Post (.returned (.bool false)) (W'.putObj (D + 1) (.loop (lrec fn tmps ps assign body D .done (some (.exit id)))))
      | .goto u => Bk (lrec fn tmps ps assign body D .busy none) D W' ∧ Post (.returned (.bool false)) (W'.putObj (D + 1) (.loop (lrec fn tmps ps assign body D .done (some (.goto u)))))
      | _ => False) a' (V.putObj (D + 1) (.loop (lrec fn tmps ps assign body D .busy none)))) (fun _ _ _ => False)) { tmps := (ps.zip args).foldl (fun t (p, v) => t.setIfInBounds p v) tmps, defers := [] } W) :
    YieldAt F m P (D + 1) args W Post := by
  refine ⟨fn, _, assign, body, run_yield (P := P) (args := args) hB.loop hps, roundIn_of_wpIn hfn (wpIn_mono hrun ?_)⟩
  intro e0 a0 V hp0
  cases e0 with
  | normal =>
    obtain ⟨hBV, hbody⟩ := hp0
    refine ⟨_, run_beginRound hBV.loop rfl, wpIn_mono hbody ?_⟩
    intro e a3 W3 hp
    cases e with
    | normal => exact ⟨_, _, run_endRound none hp.1.loop, hp.2⟩
    | ret => exact ⟨_, _, run_endRound (some .ret) hp.1.loop, hp.2⟩
    | exit id => exact ⟨_, _, run_endRound (some (.exit id)) hp.1.loop, hp.2⟩
    | goto u => exact ⟨_, _, run_endRound (some (.goto u)) hp.1.loop, hp.2⟩
    | panic ch => exact hp.elim
    | outgrown => exact hp.elim
  | ret => exact hp0.elim
  | exit id => exact hp0.elim
  | goto u => exact hp0.elim
  | panic ch => exact hp0.elim
  | outgrown => exact hp0.elim
/-- A function that hands out the values of L, one by one. -/
def SeqD {α : Type} (t : TypeId) (F : Fence) (n : Nat) (P : Program) (g : Nat) (lb : Array Value) (encs : α → Array Value) (L : List α) (Kp : World → World → Prop) (w : World) : Prop :=
  ∀ (l : Nat) (J Jx : Nat → World → Prop) (W : World), Below w.heap.size w W → OwnT t W.heap.size J → OwnT t W.heap.size Jx →
    (∀ i x W1, L[i]? = some x → J i W1 → YieldAt F (n - 1) P l (encs x) W1 fun e W' => (e = .returned (.bool true) ∧ J (i + 1) W' ∧ Kp W1 W') ∨ (e = .returned (.bool false) ∧ Jx (i + 1) W')) →
    J 0 W → CallsIn F n P g (#[.func (.yield l) #[] #[]] ++ lb) W fun e W' => (∃ v, e = .returned v) ∧ (J L.length W' ∨ ∃ i, i ≤ L.length ∧ Jx i W')
theorem rangeD {α : Type} {t : TypeId} {g : Operand} {ps : Array Tmp} {assign body : Code} {Q : Exit → Act → World → Prop} {a : Act} {w : World}
    (hro : F.round = none) (h1 : 1 ≤ n) {gf : Nat} {lb : Array Value} (hg : a.eval g = .func (.func gf) #[] lb) (hFg : F.fn gf) (eg : ∀ args w, (callFunc gf args).run P w = .ok (.enter gf args) w)
    {encs : α → Array Value} {L : List α} {Kp : World → World → Prop} (hseq : SeqD t F (n - 1) P gf lb encs L Kp w)
    (hKt : ∀ {A B C : World}, Kp A B → Kp B C → Kp A C) (hKb : ∀ (W : World) (l : Nat) (o o' : Obj), W.heap[l]? = some o → o.isCells = false → Kp W (W.putObj l o')) (hKw : ∀ (A C : World), Below A.heap.size A C → Kp A C) (hps : ∀ x, (encs x).size = ps.size)
    (I : Nat → World → Prop) (Ix : Code → Nat → World → Prop) (hI : OwnT t w.heap.size I) (hIx : ∀ c, OwnT t w.heap.size (Ix c)) (h0 : I 0 w) (a₁ : α → Nat → Act) (Ab : α → Nat → World → Prop) (hAb : ∀ x g (V : World) (l : Nat) (r : Loop) (o' : Obj), V.heap[l]? = some (.loop r) → Ab x g V → Ab x g (V.putObj l o'))
    (hassign : ∀ (l : Nat) (x : α) (W : World) (K : Act → World → Prop), x ∈ L → (∀ (g : Nat) (V : World), Below W.heap.size W V → W.heap.size ≤ g → Ab x g V → K (a₁ x g) V) →
      assign.wpIn (F.inRound l) (n - 1 - 1) P (Exit.then K (fun _ _ _ => False)) { tmps := (ps.zip (encs x)).foldl (fun t (p, v) => t.setIfInBounds p v) a.tmps, defers := [] } W)
    (hbody : ∀ (l i : Nat) (x : α) (g : Nat) (W : World), L[i]? = some x → w.heap.size ≤ g → Ab x g W → I i W → body.wpIn (F.inRound l) (n - 1 - 1) P (postD w.heap.size Kp I Ix i W) (a₁ x g) W)
    (hdone : ∀ (D : Nat) (W : World), w.heap.size ≤ D → I L.length W → W.heap[D]? = some (.deferred (some [])) → Q .normal { a with defers := { target := .collected D, args := #[] } :: a.defers } W)
    (hstop : ∀ (D : Nat) (c : Code) (i : Nat) (W : World), w.heap.size ≤ D → i ≤ L.length → Ix c i W → W.heap[D]? = some (.deferred (some [])) → c.wpIn F n P Q { a with defers := { target := .collected D, args := #[] } :: a.defers } W) :
    (Code.rangeFunc g ps assign body).wpIn F n P Q a w := by
  refine wpIn_rangeFunc fun fn hfn => ?_
  rw [hro]
  obtain ⟨W1, hW1⟩ : ∃ W1, (w.alloc (.deferred (some []))).alloc (.loop (lrec fn a.tmps ps assign body w.heap.size .ready none)) = W1 := ⟨_, rfl⟩
  have B1 : Bk (lrec fn a.tmps ps assign body w.heap.size .ready none) w.heap.size W1 := by rw [← hW1]; exact Bk.new w _
  have b1 : Below w.heap.size w W1 := by rw [← hW1]; exact ((Below.refl _ w).alloc (Nat.le_refl _) _).alloc (by simp) _
  have s1 : w.heap.size ≤ W1.heap.size := b1.size
  have z1 : W1.heap.size = w.heap.size + 2 := by rw [← hW1, World.size_alloc, World.size_alloc]
  have far : ∀ {A : World} {row : Option Nat}, (∀ r, row = some r → W1.heap.size ≤ r ∧ ∃ o : Obj, A.heap[r]? = some o ∧ (o.isCells = false ∨ ∃ cs, Blk A r t cs)) → ∀ r, row = some r → w.heap.size ≤ r ∧ ∃ o : Obj, A.heap[r]? = some o ∧ (o.isCells = false ∨ ∃ cs, Blk A r t cs) :=
    fun hr r e => by obtain ⟨hb, o, ho, hw⟩ := hr r e; exact ⟨by omega, o, ho, hw⟩
  refine ⟨w.heap.size + 1, [{ target := .collected w.heap.size, args := #[] }], W1, { target := .fn (.func gf) lb, args := #[.func (.yield (w.heap.size + 1)) #[] #[]] }, W1, gf,
    #[.func (.yield (w.heap.size + 1)) #[] #[]] ++ lb, W1, by rw [← hW1]; exact run_enterLoop_outer _ _ _ _ _, by simp only [resolve, hg]; simp [go_sem], fun f' hf' => by simp [Target.leads] at hf'; subst hf'; exact hFg, by simp [invoke, go_sem, eg], fun _ => h1, ?_⟩
  refine (hseq (w.heap.size + 1) (fun i W => I i W ∧ Bk (lrec fn a.tmps ps assign body w.heap.size .ready none) w.heap.size W) (fun i W => ∃ c, Ix c i W ∧ Bk (lrec fn a.tmps ps assign body w.heap.size .done (some c)) w.heap.size W) W1 b1
    (fun s A B row hs hg' hr => ⟨hI s A B row hs.1 hg' (far hr), hs.2.own hg' (fun q e => by have := (hr q e).1; omega)⟩)
    (fun s A B row hs hg' hr => by obtain ⟨c, hc, hb⟩ := hs; exact ⟨c, hIx c s A B row hc hg' (far hr), hb.own hg' (fun q e => by have := (hr q e).1; omega)⟩) ?_
    ⟨by rw [← hW1]; exact hI.own.alloc _ (hI.own.alloc _ h0), B1⟩).mono ?_
  · rintro i x W hx ⟨hi, hB⟩
    have hsW : w.heap.size ≤ W.heap.size := by have := (Array.getElem?_eq_some_iff.1 hB.loop).1; omega
    refine round_A hfn (hps x) hB (hassign _ x W _ (List.mem_of_getElem? hx) (fun g V hbV hgW hab => ?_))
    have hgV : W.grownBy V none := ⟨hbV.os, hbV.tape, hbV.output, hbV.size, fun i hi _ => hbV.block i hi⟩
    have hBV := hB.own hgV (fun q e => by cases e)
    have hiV := hI.below hi hbV
    have hsV : W.heap.size ≤ V.heap.size := hbV.size
    refine ⟨hBV, ?_⟩
    have hB2 := hBV.put (lrec fn a.tmps ps assign body w.heap.size .busy none)
    have hK2 : Kp W (V.putObj (w.heap.size + 1) (.loop (lrec fn a.tmps ps assign body w.heap.size .busy none))) := hKt (hKw W V hbV) (hKb _ _ _ _ hBV.loop rfl)
    refine wpIn_mono (hbody _ i x g _ hx (Nat.le_trans hsW hgW) (hAb x g V _ _ _ hBV.loop hab) (hI.own.putObj _ hiV (by omega) hBV.loop rfl)) ?_
    intro e a3 W3 hp
    cases e with
    | normal =>
      have hB3 := hB2.keep hp.1
      exact ⟨hB3, .inl ⟨rfl, ⟨hI.own.putObj _ hp.2.2 (by omega) hB3.loop rfl, hB3.put _⟩, hKt hK2 (hKt hp.2.1 (hKb _ _ _ _ hB3.loop rfl))⟩⟩
    | ret =>
      have hB3 := hB2.keep hp.1
      exact ⟨hB3, .inr ⟨rfl, .ret, (hIx _).own.putObj _ hp.2 (by omega) hB3.loop rfl, hB3.put _⟩⟩
    | exit id =>
      have hB3 := hB2.keep hp.1
      exact ⟨hB3, .inr ⟨rfl, .exit id, (hIx _).own.putObj _ hp.2 (by omega) hB3.loop rfl, hB3.put _⟩⟩
    | goto u =>
      have hB3 := hB2.keep hp.1
      exact ⟨hB3, .inr ⟨rfl, .goto u, (hIx _).own.putObj _ hp.2 (by omega) hB3.loop rfl, hB3.put _⟩⟩
    | panic ch => exact hp.elim
    | outgrown => exact hp.elim
  · rintro e W2 ⟨⟨v, rfl⟩, (⟨hi, hB⟩ | ⟨i, hil, c, hi, hB⟩)⟩
    · exact ⟨none, _, run_endLoop (P := P) hB.loop (by simp [lrec]), hdone _ _ (Nat.le_refl _) (hI.own.putObj _ hi (by omega) hB.loop rfl) ((World.putObj_heap_other (by omega)).trans hB.mark)⟩
    · exact ⟨some c, _, run_endLoop (P := P) hB.loop (by simp [lrec]), hstop _ c i _ (Nat.le_refl _) hil ((hIx c).own.putObj _ hi (by omega) hB.loop rfl) ((World.putObj_heap_other (by omega)).trans hB.mark)⟩
end
section
variable {F : Fence} {n : Nat} {P : Program}
/-- A mark among what is deferred. -/
def dmk (D : Nat) : Deferred := { target := .collected D, args := #[] }
/-- What marks stand. -/
def MK (Ds : List Nat) (V : World) : Prop := ∀ D, D ∈ Ds → V.heap[D]? = some (.deferred (some []))
/-- A function leaves with many marks. -/
theorem leaves_marks {fn : Func} {tmps : Array Value} {R : Ending → World → Prop} {B : Nat} {J : World → Prop} (hJ : ∀ V D, J V → B ≤ D → V.heap[D]? = some (.deferred (some [])) → J (V.putObj D (.deferred none))) (fin : ∀ V, J V → LeavesIn F n P fn tmps R [] .returning V) :
    ∀ (Ds : List Nat) (V : World), Ds.Nodup → (∀ D ∈ Ds, B ≤ D) → MK Ds V → J V → LeavesInM F n P fn tmps R (Ds.map dmk) .returning V
  | [], V, _, _, _, h => fin V h
  | D :: Ds, V, hn, hB, hm, h => by
    obtain ⟨h1, h2⟩ := List.nodup_cons.1 hn
    have hD := hm D (by simp)
    exact ⟨by simp, .inl ⟨D, _, rfl, run_takeDeferred hD, leaves_marks hJ fin Ds _ h2 (fun E hE => hB E (by simp [hE])) (fun E hE => (World.putObj_heap_other (fun e => h1 (by rw [← e]; exact hE))).trans (hm E (by simp [hE]))) (hJ V D h (hB D (by simp)) hD)⟩⟩
theorem round_wide {n m : Nat} {l l' : Nat} {f : FuncId} {tmps : Array Value} {assign body : Code} {w : World} {R : Ending → World → Prop} (h : RoundIn Fence.wide n P l f tmps assign body w R) : RoundIn (Fence.wide.inRound l') m P l f tmps assign body w R := ⟨trivial, fun c cs _ => h.2 c cs (room_wide _)⟩
theorem mk_cons {Ds : List Nat} {D : Nat} {V : World} (h : V.heap[D]? = some (.deferred (some []))) (k : MK Ds V) : MK (D :: Ds) V := fun E hE => by
  rcases List.mem_cons.1 hE with rfl | hE
  · exact h
  · exact k E hE
theorem MK.on {Ds : List Nat} {V V' : World} (h : MK Ds V) (hb : Below V.heap.size V V') : MK Ds V' := fun D hD => (hb.block D (Array.getElem?_eq_some_iff.1 (h D hD)).1).trans (h D hD)
end

end Go.Proofs.Ytabpfbankinojaa
