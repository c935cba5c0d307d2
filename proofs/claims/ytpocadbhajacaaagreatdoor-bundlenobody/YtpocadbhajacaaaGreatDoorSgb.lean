/-
  Worlds in which some blocks, or all cells, are kept; a range over a function within another one (out of Skf, Sck).
-/
import Derived.Test.YtpocadbhajacaaaGreatDoorSga
import Derived.Test.YtpocadbhajacaaaGreatDoorJrg
import Derived.Test.YtpocadbhajacaaaGreatDoorFkr
import Derived.Test.YtpocadbhajacaaaGreatDoorOu
import Derived.Test.YtpocadbhajacaaaGreatDoorLzb
namespace Go.Proofs.YtpocadbhajacaaaGreatDoor
open Go.RowKit Go.Shelf
set_option linter.unusedVariables false
set_option linter.unusedSimpArgs false
set_option maxRecDepth 100000

/-- Some blocks are left as they were. -/
structure KF (F : Nat → Prop) (A C : World) : Prop where
  size : A.heap.size ≤ C.heap.size
  keep : ∀ k, F k → C.heap[k]? = A.heap[k]?
theorem KF.refl (F : Nat → Prop) (A : World) : KF F A A := ⟨Nat.le_refl _, fun _ _ => rfl⟩
theorem KF.trans {F : Nat → Prop} {A C D : World} (h : KF F A C) (k : KF F C D) : KF F A D := ⟨Nat.le_trans h.size k.size, fun i hi => (k.keep i hi).trans (h.keep i hi)⟩
theorem KF.book {F : Nat → Prop} {B : Nat} (hF : ∀ k, F k → k < B) (W : World) (l : Nat) (o' : Obj) (hl : B ≤ l) : KF F W (W.putObj l o') :=
  ⟨(grownBy_putObj' W l o').size, fun k hk => World.putObj_heap_other (by have := hF k hk; omega)⟩
theorem KF.under {F : Nat → Prop} {B : Nat} (hF : ∀ k, F k → k < B) {A C : World} (h : Below B A C) : KF F A C := ⟨h.size, fun k hk => h.block k (hF k hk)⟩
theorem PT.sameS {w w' : World} (h : PT w) (hb : w'.heap[2]? = w.heap[2]?) : PT w' := by
  unfold PT Lib.TabIs World.var? at *
  rw [gPT] at h ⊢
  simp only [Option.bind_some] at h ⊢
  rw [hb]
  exact h
theorem size_is {w : World} {d s : Nat} {rs : List Rw} {D : Dm} (h : DkAt w d s rs D) (n : ByteArray) : (if fE rs n = 0 then ((fl (play rs) n).length : Int) else 0) = ((fl (play rs) n).length : Int) := by
  by_cases hf : fE rs n = 0
  · rw [if_pos hf]
  · rw [if_neg hf]
    have hnone : play rs n = none := by
      by_cases hn : nmB n = true
      · cases hp : play rs n with
        | none => rfl
        | some xs => simp [fE, hn, hp] at hf
      · exact Nmd.play h.valS n (by simpa using hn)
    simp [fl, hnone]
/-- All cells are kept. -/
structure CK (A C : World) : Prop where
  size : A.heap.size ≤ C.heap.size
  keep : ∀ (k : Nat) (o : Obj), A.heap[k]? = some o → o.isCells = true → C.heap[k]? = some o
theorem CK.of_grown {A C : World} {row : Option Nat} (hg : A.grownBy C row) (hr : ∀ r, row = some r → ∃ o : Obj, A.heap[r]? = some o ∧ o.isCells = false) : CK A C :=
  ⟨hg.size, fun k o ho hc => by
    rw [hg.block k (Array.getElem?_eq_some_iff.1 ho).1 (fun e => by
      obtain ⟨q, hq, hn⟩ := hr k e.symm
      rw [ho] at hq
      injection hq with hq
      subst hq
      rw [hc] at hn
      cases hn)]
    exact ho⟩
theorem CK.below {A C : World} (h : Below A.heap.size A C) : CK A C := ⟨h.size, fun k o ho _ => (h.block k (Array.getElem?_eq_some_iff.1 ho).1).trans ho⟩
theorem CK.put {V : World} {D : Nat} {o : Obj} (o' : Obj) (h : V.heap[D]? = some o) (hc : o.isCells = false) : CK V (V.putObj D o') :=
  ⟨(grownBy_putObj' V D o').size, fun k q hq hcq => by
    rw [World.putObj_heap_other (fun e => by
      subst e
      rw [h] at hq
      injection hq with hq
      subst hq
      rw [hc] at hcq
      cases hcq)]
    exact hq⟩
theorem Blk.ck {A C : World} {g : Nat} {t : TypeId} {cs : List Value} (h : Blk A g t cs) (hk : CK A C) : Blk C g t cs := hk.keep g _ h rfl
theorem Own.ck {A C : World} {B : Nat} {v : Value} {xs : List Int} (h : Own A B v xs) (hk : CK A C) : Own C B v xs := h.same (fun k e => by
  obtain ⟨cs, hc⟩ := h.lies e
  exact (hc.ck hk).trans hc.symm)
/-- A store of what is there. -/
theorem set_id {w : World} {g i : Nat} {t : TypeId} {cs : List Value} {v : Value} (h : Blk w g t cs) (hv : cs[i]? = some v) : w.setCell ⟨g, i, none⟩ v = w := by
  have e : w.heap.modify g (fun
      | .cells c elem frozen => .cells (if (⟨g, i, none⟩ : Addr).spot.isSome then c else c.setIfInBounds i v) elem frozen
      | o => o) = w.heap := by
    apply Array.ext_getElem?
    intro k
    rw [Array.getElem?_modify]
    split
    · rename_i hk
      subst hk
      have h' : w.heap[g]? = some (.cells cs.toArray t) := h
      rw [h']
      obtain ⟨hi, rfl⟩ := List.getElem?_eq_some_iff.1 hv
      simp
    · rfl
  exact congrArg (fun H => ({ w with heap := H } : World)) e
theorem keepsO_below {A B : World} (h : Below A.heap.size A B) : KeepsOthers A B := ⟨h.size, fun k o hk _ => (h.block k (Array.getElem?_eq_some_iff.1 hk).1).trans hk⟩
theorem keepsO_but {A B : World} {g : Nat} {t : TypeId} {cs : List Value} (h : But g A B) (hg : Blk A g t cs) : KeepsOthers A B := ⟨Nat.le_of_eq h.size.symm, fun k o hk hc => (h.block k (fun e => by
  subst e
  rw [hg] at hk
  injection hk with hk
  subst hk
  cases hc)).trans hk⟩
theorem keepsO_grown {A B : World} {row : Option Nat} (h : A.grownBy B row) (hr : ∀ g, row = some g → ∃ t cs, Blk A g t cs) : KeepsOthers A B := ⟨h.size, fun k o hk hc => (h.block k (Array.getElem?_eq_some_iff.1 hk).1 (fun e => by
  obtain ⟨t, cs, hg⟩ := hr k e.symm
  rw [hg] at hk
  injection hk with hk
  subst hk
  cases hc)).trans hk⟩

/-- What is to be deferred is left. -/
def MarksFrom (B : Nat) (A C : World) : Prop := ∀ k : Nat, B ≤ k → A.heap[k]? = some (.deferred (some [])) → C.heap[k]? = some (.deferred (some []))
theorem marks_round {B q : Nat} {W W3 : World} {r r2 : Loop} {o o' : Obj} (hl : W.heap[q]? = some (.loop r)) (hk : KeepsFrom B (W.putObj q o) W3) (h3 : W3.heap[q]? = some (.loop r2)) : MarksFrom B W (W3.putObj q o') := fun k hB hq => by
  have hne : k ≠ q := fun e => by
    subst e
    rw [hq] at hl
    injection hl with hl
    cases hl
  rw [World.putObj_heap_other hne]
  exact hk.same k _ hB ((World.putObj_heap_other hne).trans hq) rfl
theorem Bk.own {r : Loop} {D : Nat} {W W' : World} {row : Option Nat} (h : Bk r D W) (hg : W.grownBy W' row) (hr : ∀ q, row = some q → D + 1 < q) : Bk r D W' :=
  ⟨(hg.block _ (Array.getElem?_eq_some_iff.1 h.loop).1 (fun e => by have := hr _ e.symm; omega)).trans h.loop, (hg.block _ (Array.getElem?_eq_some_iff.1 h.mark).1 (fun e => by have := hr _ e.symm; omega)).trans h.mark⟩
section
variable {F : Fence} {n : Nat} {P : Program}
/-- As SeqQ; of a round it knows besides that what is to be deferred is left. -/
def SeqL {α : Type} (F : Fence) (n : Nat) (P : Program) (g : Nat) (lb : Array Value) (encs : α → Array Value) (R : List α → α → World → World → Prop) (Kp : α → World → World → Prop) (S Sp : List α → Prop) (w : World) : Prop :=
  ∀ (l : Nat) (J Jx : List α → World → Prop) (W : World), Below w.heap.size w W → OwnFrom W.heap.size J → OwnFrom W.heap.size Jx →
    (∀ pre x W0 W1, J pre W0 → Below W0.heap.size W0 W1 → J pre W1 → R pre x W0 W1 → YieldAt F (n - 1) P l (encs x) W1 fun e W' => (e = .returned (.bool true) ∧ J (pre ++ [x]) W' ∧ Kp x W1 W' ∧ MarksFrom w.heap.size W1 W') ∨ (e = .returned (.bool false) ∧ Jx (pre ++ [x]) W' ∧ MarksFrom w.heap.size W1 W')) →
    J [] W → CallsIn F n P g (#[.func (.yield l) #[] #[]] ++ lb) W fun e W' => (∃ v, e = .returned v) ∧ ((∃ xs, S xs ∧ J xs W') ∨ (∃ pre, Sp pre ∧ Jx pre W'))

theorem rangeL {α : Type} {g : Operand} {ps : Array Tmp} {assign body : Code} {Q : Exit → Act → World → Prop} {a : Act} {w : World}
    (hro : F.round = none) (h1 : 1 ≤ n) {gf : Nat} {lb : Array Value} (hg : a.eval g = .func (.func gf) #[] lb) (hFg : F.fn gf) (eg : ∀ args w, (callFunc gf args).run P w = .ok (.enter gf args) w)
    {encs : α → Array Value} {R : List α → α → World → World → Prop} {Kp : α → World → World → Prop} {S Sp : List α → Prop} (hseq : SeqL F (n - 1) P gf lb encs R Kp S Sp w)
    (hKt : ∀ {x : α} {A B C : World}, Kp x A B → Kp x B C → Kp x A C) (hKb : ∀ (x : α) (W : World) (l : Nat) (o o' : Obj), w.heap.size ≤ l → W.heap[l]? = some o → o.isCells = false → Kp x W (W.putObj l o')) (hps : ∀ x, (encs x).size = ps.size)
    (hR : ∀ pre x W0, OwnFrom w.heap.size (fun (_ : Unit) W => R pre x W0 W))
    (I : List α → World → Prop) (Ix : Code → List α → World → Prop) (hI : OwnFrom w.heap.size I) (hIx : ∀ c, OwnFrom w.heap.size (Ix c)) (h0 : I [] w) (a₁ : α → Act)
    (hassign : ∀ (l : Nat) (x : α) (W : World) (K : Act → World → Prop), K (a₁ x) W →
      assign.wpIn (F.inRound l) (n - 1 - 1) P (Exit.then K (fun _ _ _ => False)) { tmps := (ps.zip (encs x)).foldl (fun t (p, v) => t.setIfInBounds p v) a.tmps, defers := [] } W)
    (hbody : ∀ (l : Nat) (pre : List α) (x : α) (W0 W : World), I pre W0 → (∀ (k : Nat) (o : Obj), W0.heap[k]? = some o → o.isCells = true → W.heap[k]? = some o) → W0.heap.size ≤ W.heap.size → I pre W → R pre x W0 W → body.wpIn (F.inRound l) (n - 1 - 1) P (ownPostG w.heap.size (Kp x) I Ix (pre ++ [x]) W) (a₁ x) W)
    (hdone : ∀ (D : Nat) (xs : List α) (W : World), w.heap.size ≤ D → S xs → I xs W → W.heap[D]? = some (.deferred (some [])) → Q .normal { a with defers := { target := .collected D, args := #[] } :: a.defers } W)
    (hstop : ∀ (D : Nat) (c : Code) (pre : List α) (W : World), w.heap.size ≤ D → Sp pre → Ix c pre W → W.heap[D]? = some (.deferred (some [])) → c.wpIn F n P Q { a with defers := { target := .collected D, args := #[] } :: a.defers } W) :
    (Code.rangeFunc g ps assign body).wpIn F n P Q a w := by
  refine wpIn_rangeFunc fun fn hfn => ?_
  rw [hro]
  obtain ⟨W1, hW1⟩ : ∃ W1, (w.alloc (.deferred (some []))).alloc (.loop (lrec fn a.tmps ps assign body w.heap.size .ready none)) = W1 := ⟨_, rfl⟩
  have B1 : Bk (lrec fn a.tmps ps assign body w.heap.size .ready none) w.heap.size W1 := by rw [← hW1]; exact Bk.new w _
  have b1 : Below w.heap.size w W1 := by rw [← hW1]; exact ((Below.refl _ w).alloc (Nat.le_refl _) _).alloc (by simp) _
  have s1 : w.heap.size ≤ W1.heap.size := b1.size
  have far : ∀ {A : World} {row : Option Nat}, (∀ r, row = some r → W1.heap.size ≤ r ∧ ∃ o : Obj, A.heap[r]? = some o ∧ o.isCells = false) → ∀ r, row = some r → w.heap.size ≤ r ∧ ∃ o : Obj, A.heap[r]? = some o ∧ o.isCells = false :=
    fun hr r e => by obtain ⟨hb, o, ho, hw⟩ := hr r e; exact ⟨by omega, o, ho, hw⟩
  have z1 : W1.heap.size = w.heap.size + 2 := by rw [← hW1, World.size_alloc, World.size_alloc]
  refine ⟨w.heap.size + 1, [{ target := .collected w.heap.size, args := #[] }], W1, { target := .fn (.func gf) lb, args := #[.func (.yield (w.heap.size + 1)) #[] #[]] }, W1, gf,
    #[.func (.yield (w.heap.size + 1)) #[] #[]] ++ lb, W1, by rw [← hW1]; exact run_enterLoop_outer _ _ _ _ _, by simp only [resolve, hg]; simp [go_sem], fun f' hf' => by simp [Target.leads] at hf'; subst hf'; exact hFg, by simp [invoke, go_sem, eg], fun _ => h1, ?_⟩
  refine (hseq (w.heap.size + 1) (fun pre W => I pre W ∧ Bk (lrec fn a.tmps ps assign body w.heap.size .ready none) w.heap.size W) (fun pre W => ∃ c, Ix c pre W ∧ Bk (lrec fn a.tmps ps assign body w.heap.size .done (some c)) w.heap.size W) W1 b1
    (fun s A B row hs hg' hr => ⟨hI s A B row hs.1 hg' (far hr), hs.2.own hg' (fun q e => by have := (hr q e).1; omega)⟩)
    (fun s A B row hs hg' hr => by obtain ⟨c, hc, hb⟩ := hs; exact ⟨c, hIx c s A B row hc hg' (far hr), hb.own hg' (fun q e => by have := (hr q e).1; omega)⟩) ?_
    ⟨by rw [← hW1]; exact hI.alloc _ (hI.alloc _ h0), B1⟩).mono ?_
  · rintro pre x W0 W ⟨hi0, hB0⟩ hb0 ⟨hi, hB⟩ hr
    refine round_R hfn (hps x) hB (hassign _ x W) ?_
    have hB2 := hB.put (lrec fn a.tmps ps assign body w.heap.size .busy none)
    have hK2 : Kp x W (W.putObj (w.heap.size + 1) (.loop (lrec fn a.tmps ps assign body w.heap.size .busy none))) := hKb x _ _ _ _ (by omega) hB.loop rfl
    refine wpIn_mono (hbody _ pre x W0 _ hi0 (fun k o ho hc => ?_) (Nat.le_trans hb0.size (grownBy_putObj' W _ _).size) (hI.putObj _ hi (by omega) hB.loop rfl) ((hR pre x W0).putObj (s := ()) _ hr (by omega) hB.loop rfl)) ?_
    · have hk : W.heap[k]? = some o := (hb0.block k (Array.getElem?_eq_some_iff.1 ho).1).trans ho
      rw [World.putObj_heap_other (fun e => by
        subst e
        rw [hB.loop] at hk
        injection hk with hk
        subst hk
        cases hc)]
      exact hk
    intro e a3 W3 hp
    cases e with
    | normal =>
      have hB3 := hB2.keep hp.1
      exact ⟨hB3, .inl ⟨rfl, ⟨hI.putObj _ hp.2.2 (by omega) hB3.loop rfl, hB3.put _⟩, hKt hK2 (hKt hp.2.1 (hKb x _ _ _ _ (by omega) hB3.loop rfl)), marks_round hB.loop hp.1 hB3.loop⟩⟩
    | ret =>
      have hB3 := hB2.keep hp.1
      exact ⟨hB3, .inr ⟨rfl, ⟨.ret, (hIx _).putObj _ hp.2 (by omega) hB3.loop rfl, hB3.put _⟩, marks_round hB.loop hp.1 hB3.loop⟩⟩
    | exit id =>
      have hB3 := hB2.keep hp.1
      exact ⟨hB3, .inr ⟨rfl, ⟨.exit id, (hIx _).putObj _ hp.2 (by omega) hB3.loop rfl, hB3.put _⟩, marks_round hB.loop hp.1 hB3.loop⟩⟩
    | goto u =>
      have hB3 := hB2.keep hp.1
      exact ⟨hB3, .inr ⟨rfl, ⟨.goto u, (hIx _).putObj _ hp.2 (by omega) hB3.loop rfl, hB3.put _⟩, marks_round hB.loop hp.1 hB3.loop⟩⟩
    | panic ch => exact hp.elim
    | outgrown => exact hp.elim
  · rintro e W2 ⟨⟨v, rfl⟩, (⟨xs, hS, hi, hB⟩ | ⟨pre, hSp, c, hi, hB⟩)⟩
    · exact ⟨none, _, run_endLoop (P := P) hB.loop (by simp [lrec]), hdone _ xs _ (Nat.le_refl _) hS (hI.putObj _ hi (by omega) hB.loop rfl) ((World.putObj_heap_other (by omega)).trans hB.mark)⟩
    · exact ⟨some c, _, run_endLoop (P := P) hB.loop (by simp [lrec]), hstop _ c pre _ (Nat.le_refl _) hSp ((hIx c).putObj _ hi (by omega) hB.loop rfl) ((World.putObj_heap_other (by omega)).trans hB.mark)⟩
end

end Go.Proofs.YtpocadbhajacaaaGreatDoor
