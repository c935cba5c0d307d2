/-
  Texts one behind the other: Ra Rr Rd Nz Rh.
-/
import Derived.Test.YthgfbcndoedacaaDoorPkJ
import Derived.Test.YthgfbcndoedacaaDoorPkB

/-
  slices.Clone of a range's parts; the iterator of a range that is made.
-/
namespace Go.Proofs.YthgfbcndoedacaaDoor
open Go.RowKit Go.Shelf
set_option linter.unusedVariables false

theorem pown_empty (w : World) : POwn (w.alloc (.cells #[] 75)) w.heap.size (.slice (some ⟨w.heap.size, 0, none⟩) 0 0) [] :=
  ⟨by simp [pcs], .inr ⟨w.heap.size, 0, #[], rfl, Nat.le_refl _, Blk.made w 75 [], Nat.le_refl _, by unfold maxLen; omega, by simp, by simp [pcs]⟩⟩
theorem step_appendPs {dst : Option Tmp} {s x : Operand} {ty : TypeId} {pos : String} {aft : Array Edge} {gd : Option (Nat × Bool)} {ops : Array Oper} {rest : List Oper} {a : Act} {w : World} {Q : Exit → Act → World → Prop}
    {B : Nat} {v : Value} {g c : Nat} {ps : List Pt} {cs : List Value}
    (hw : Region.wanted ⟨dst, .call { callee := .builtin .append, args := #[s, x], argTypes := #[52, 52] }, ty, pos, aft, gd⟩ (yielded ops a.tmps) = true)
    (hs : a.eval s = v) (hx : a.eval x = .slice (some ⟨g, 0, none⟩) ps.length c) (hown : POwn w B v []) (hgl : GoodL ps) (hy : Blk w g 75 cs) (ht : cs.take (ps.length * 34) = pcs ps) (hlen : ps.length ≤ 1048576) (hB : B ≤ w.heap.size)
    (h : ∀ v' w', POwn w' B v' ps → w.grownBy w' v.ownBlock → wpList Tryd.prog ops Q rest (a.put dst v') w') :
    wpList Tryd.prog ops Q (⟨dst, .call { callee := .builtin .append, args := #[s, x], argTypes := #[52, 52] }, ty, pos, aft, gd⟩ :: rest) a w := by
  obtain ⟨i0, hi, hz0, hz1, hz2⟩ := info_parts infoP
  refine BigFrame.wpList_want hw fun K hK => ?_
  refine wp_append_own _ s x 52 rfl B 75 i0 (.agg pz.toArray) 34 48 undPl hi hz0 hz1 hz2 rfl (by decide) v _ _ hs hown ⟨g, 0, none⟩ ps.length c (pcs ps) hx (pcs_length hgl) ?_ ?_ (by unfold maxLen; simp; omega) (by simp; omega) hB ?_
  · intro j u hu
    rw [Addr.add_lit, Nat.zero_add, hy.cell]
    rw [← ht, List.getElem?_take] at hu
    split at hu
    · exact hu
    · cases hu
  · intro u hu
    simp only [pcs, List.mem_flatMap] at hu
    obtain ⟨p, _, hp⟩ := hu
    exact One.pc p u hp
  · intro v' w' h1 h2 _
    refine hK _ _ (h v' w' ?_ h2)
    unfold POwn
    have e0 : ([] : List Pt).length + ps.length = ps.length := by simp
    rw [e0] at h1
    simpa [pcs] using h1

set_option maxRecDepth 100000 in
theorem clone_any (B : Nat) (v : Value) (ps : List Pt) (w : World) (ho : POwn w B v ps) (hgl : GoodL ps) (hl : ps.length ≤ 1000) : Calls Tryd.prog 31 #[v] w fun r w' => ∃ v', r = .returned v' ∧ POwn w' w.heap.size v' ps ∧ Below w.heap.size w w' := by
  rcases ho.lies with ⟨rfl, rfl⟩ | ⟨g, cap, cs, rfl, hB, hb, hc, hm, hcl, ht⟩
  · have heq : ∀ u : World, (binOp BinOp.eql 52 (.slice none 0 0) (.slice none 0 0)).run Tryd.prog u = .ok (.bool true) u := fun u => by kernel_rfl
    go_enter Tryd.func31, Tryd.ntmps31
    go_wp2
    go_ret
    exact ⟨_, rfl, POwn.nil _ _, Below.refl _ _⟩
  · have HB := hide hb
    have HT := hide ht
    have HGL := hide hgl
    clear ho hb ht hgl
    have heq : ∀ u : World, (binOp BinOp.eql 52 (.slice (some ⟨g, 0, none⟩) ps.length cap) (.slice none 0 0)).run Tryd.prog u = .ok (.bool false) u := fun u => by kernel_rfl
    go_enter Tryd.func31, Tryd.ntmps31
    go_wp2_with (refine step_appendPs rfl rfl rfl (pown_empty _) HGL.out (HB.out.below ((Below.refl _ _).alloc (Nat.le_refl _) _) HB.out.lt) HT.out (by omega) (by simp) ?_)
    intro v5 w5 ho5 hg5
    have hb5 : Below w.heap.size w w5 := ((Below.refl _ w).alloc (Nat.le_refl _) _).trans (Below.of_grown hg5 (by simp) (fun k hk => by
      have hk' : some w.heap.size = some k := hk
      injection hk' with hk'
      omega))
    go_wp2
    go_ret
    exact ⟨_, rfl, ho5, hb5⟩

/-- What a loop's body may turn: blocks of its own (M), and new ones. -/
structure KM (M : World → Nat → Prop) (A B : World) : Prop where
  size : A.heap.size ≤ B.heap.size
  keep : ∀ k o, A.heap[k]? = some o → o.isCells = true → ¬ M A k → B.heap[k]? = some o
  mine : ∀ k, k < A.heap.size → M B k → M A k
theorem KM.trans {M : World → Nat → Prop} {A B C : World} (h : KM M A B) (k : KM M B C) : KM M A C :=
  ⟨Nat.le_trans h.size k.size, fun i o hi ho hm => k.keep i o (h.keep i o hi ho hm) ho (fun hb => hm (h.mine i (Array.getElem?_eq_some_iff.1 hi).1 hb)), fun i hi hm => h.mine i hi (k.mine i (Nat.lt_of_lt_of_le hi h.size) hm)⟩
/-- Blocks that are told by what lay there at the loop's beginning. -/
structure Mine (n₀ : Nat) (M : World → Nat → Prop) : Prop where
  below : ∀ A B, n₀ ≤ A.heap.size → Below A.heap.size A B → ∀ k, k < A.heap.size → M B k → M A k
  put : ∀ A l o, n₀ ≤ l → l < A.heap.size → ∀ k, k < A.heap.size → M (A.putObj l o) k → M A k
/-- Of what was laid behind w none is among them. -/
def Fresh (w : World) (M : World → Nat → Prop) : Prop := ∀ A, Below w.heap.size w A → ∀ k, M A k → k < w.heap.size
theorem KM.book {n₀ : Nat} {M : World → Nat → Prop} (hM : Mine n₀ M) {w : World} (hn : n₀ ≤ w.heap.size) (W : World) (l : Nat) (o o' : Obj) (hl : w.heap.size ≤ l) (h : W.heap[l]? = some o) (hc : o.isCells = false) (_ : o.isWalk = false) : KM M W (W.putObj l o') :=
  ⟨(grownBy_putObj' W l o').size, fun k q hk hq _ => by
    have hne : k ≠ l := fun e => by
      subst e
      rw [h] at hk
      injection hk with hk
      subst hk
      rw [hc] at hq
      cases hq
    rw [World.putObj_heap_other hne]
    exact hk, fun k hk hm => hM.put W l o' (Nat.le_trans hn hl) (Array.getElem?_eq_some_iff.1 h).1 k hk hm⟩
/-- One block. -/
theorem Mine.one {n₀ g : Nat} (h : g < n₀) : Mine n₀ (fun A k => k = g ∧ k < A.heap.size) :=
  ⟨fun A B hn _ k hk hm => ⟨hm.1, hk⟩, fun A l o hl hlt k hk hm => ⟨hm.1, hk⟩⟩
theorem Fresh.one {w : World} {g : Nat} (h : g < w.heap.size) : Fresh w (fun A k => k = g ∧ k < A.heap.size) := fun A _ k hm => by have := hm.1; omega
theorem km_below {n₀ : Nat} {M : World → Nat → Prop} (hM : Mine n₀ M) {A B : World} (hn : n₀ ≤ A.heap.size) (h : Below A.heap.size A B) : KM M A B :=
  ⟨h.size, fun k o hk _ _ => (h.block k (Array.getElem?_eq_some_iff.1 hk).1).trans hk, fun k hk hm => hM.below A B hn h k hk hm⟩
theorem km_one {g : Nat} {A B : World} (h : But g A B) (hlt : g < A.heap.size) : KM (fun A k => k = g ∧ k < A.heap.size) A B :=
  ⟨Nat.le_of_eq h.size.symm, fun k o hk _ hm => (h.block k (fun e => hm ⟨e, by omega⟩)).trans hk, fun k hk hm => ⟨hm.1, hk⟩⟩
theorem keepsO_below {A B : World} (h : Below A.heap.size A B) : KeepsOthers A B := ⟨h.size, fun k o hk _ => (h.block k (Array.getElem?_eq_some_iff.1 hk).1).trans hk⟩
theorem keepsO_but {g : Nat} {t : TypeId} {cs : List Value} {A B : World} (h : But g A B) (hg : Blk A g t cs) : KeepsOthers A B := ⟨Nat.le_of_eq h.size.symm, fun k o hk hc => (h.block k (fun e => by
  subst e
  rw [hg] at hk
  injection hk with hk
  subst hk
  cases hc)).trans hk⟩
theorem grown_none {A B : World} (h : Below A.heap.size A B) : A.grownBy B none := ⟨h.os, h.tape, h.output, h.size, fun k hk _ => h.block k hk⟩

/-- The i-th part, or any that is good. -/
def pG (ps : List Pt) (i : Nat) : Pt := if i < ps.length then pAt ps i else ((49, 0), zer 32)
theorem pG_good {ps : List Pt} (h : GoodL ps) (i : Nat) : Good (pG ps i) := by
  unfold pG
  split
  · rename_i hi; exact pAt_good h hi
  · exact ⟨zer_length 32, zer_isB 32, by simp, by simp⟩
theorem meas_lt {k n : Nat} (h : k < n) : n - (intOf (.int .i64 ((k : Int) + 1))).toNat < n - (intOf (.int .i64 (k : Int))).toNat := by
  simp only [intOf]
  omega
theorem range_pre {k n : Nat} (h : k ≤ n) : List.range k <+: List.range n := by
  obtain ⟨d, rfl⟩ : ∃ d, n = k + d := ⟨n - k, by omega⟩
  rw [List.range_add]
  exact List.prefix_append _ _
/-- The clone that the iterator goes through. -/
def CL (M : World → Nat → Prop) (a : Option Addr) (ps : List Pt) (W : World) : Prop := ps = [] ∨ ∃ c cs, a = some ⟨c, 0, none⟩ ∧ Blk W c 75 cs ∧ cs.take (ps.length * 34) = pcs ps ∧ ¬ M W c

set_option maxRecDepth 100000 in
set_option maxHeartbeats 1000000 in
theorem all_stops (B g b e : Nat) (v : Value) (ps : List Pt) (Bs n₀ : Nat) (w : World) (hB : Bs < n₀) (hn0 : n₀ ≤ w.heap.size) (hBs : w.cell? ⟨Bs, 0, none⟩ = some (.pointer (some ⟨g, 0, none⟩))) (hr : Rg w B g b e v ps) (M : World → Nat → Prop) (hM : Mine n₀ M) (hF : Fresh w M) :
    SeqStopsK Fence.wide 2 Tryd.prog 41 #[.pointer (some ⟨Bs, 0, none⟩)] (fun i : Nat => #[Value.agg (nC (pG ps i).1).toArray, Value.agg (u8s (pG ps i).2).toArray]) (KM M) (fun xs => xs = List.range ps.length) (fun pre => pre <+: List.range ps.length) ps.length w := by
  intro l J Jx W hW hJ hJx hY h0
  have hc : W.cell? ⟨Bs, 0, none⟩ = some (.pointer (some ⟨g, 0, none⟩)) := cell_below hBs hW
  have HR := hide (hr.below hW)
  have c0 : W.cell? ⟨g, 0, none⟩ = some (.bool true) := by rw [HR.out.blk.cell]; rfl
  have hwW := hW.size
  have HW := hide hW
  obtain ⟨a0, n0, q0, rfl⟩ : ∃ a n c, v = Value.slice a n c := by rcases hr.own.lies with ⟨rfl, _⟩ | ⟨_, _, _, rfl, _⟩ <;> exact ⟨_, _, _, rfl⟩
  have c3 : W.cell? ⟨g, 3, none⟩ = some (.slice a0 n0 q0) := by rw [HR.out.blk.cell]; rfl
  clear hr hBs hW
  refine callsIn_of_wp Tryd.func41 rfl trivial ?_ rfl
  simp only [Tryd.ntmps41, List.size_toArray, List.length_cons, List.length_nil, Nat.reduceAdd, Nat.reduceSub, Array.replicate_succ, Array.replicate_zero, List.push_toArray, List.append_toArray, List.nil_append, List.cons_append]
  gi_wp2_with fail
  refine ⟨trivial, (callsIn_wide.2 (made_is _ _ c0)).mono ?_⟩
  rintro r w' ⟨rfl, rfl⟩
  gi_wp2_with fail
  refine ⟨trivial, (callsIn_wide.2 (clone_any B _ ps _ HR.out.own HR.out.good (by have := HR.out.count; omega))).mono ?_⟩
  rintro r W1 ⟨v1, rfl, ho1, hb1⟩
  obtain ⟨a1, q1, rfl, hcl⟩ : ∃ a q, v1 = Value.slice a ps.length q ∧ CL M a ps W1 := by
    rcases ho1.lies with ⟨rfl, rfl⟩ | ⟨c, q, cs, rfl, hcB, hb, _, _, _, ht⟩
    · exact ⟨none, 0, rfl, .inl rfl⟩
    · exact ⟨_, q, rfl, .inr ⟨c, cs, rfl, hb, ht, fun hm => by
        have := hF W1 (HW.out.trans (hb1.mono HW.out.size)) c hm
        omega⟩⟩
  have HJ0 := hide (hJ [] W W1 none h0 (grown_none hb1) (fun r e => by cases e))
  have HCL := hide hcl
  have hnW1 : n₀ ≤ W1.heap.size := Nat.le_trans (Nat.le_trans hn0 hwW) hb1.size
  have HN := hide HR.out.count
  have HGL := hide HR.out.good
  obtain ⟨dP, huP, hdP⟩ := wP.und
  clear ho1 hb1 hcl c0 c3 hc HR h0
  gi_wp2_with fail
  gi_loopw [14] (fun i wr => ∃ k : Nat, k ≤ ps.length ∧ i = .int .i64 (k : Int) ∧ Hid (J (List.range k) wr) ∧ Hid (CL M a1 ps wr) ∧ n₀ ≤ wr.heap.size) (fun i _ => ps.length - (intOf i).toNat)
  case atStart => exact ⟨0, Nat.zero_le _, rfl, HJ0, HCL, hnW1⟩
  case round =>
    obtain ⟨k, hk, rfl, HJ, HC, hnr⟩ := hrel
    clear HJ0 HCL hnW1
    by_cases hlt : k < ps.length
    · have hlt' : (k : Int) < (ps.length : Int) := by omega
      obtain ⟨c, cs, rfl, hcb, hct, hcm⟩ : ∃ c cs, a1 = some ⟨c, 0, none⟩ ∧ Blk wr c 75 cs ∧ cs.take (ps.length * 34) = pcs ps ∧ ¬ M wr c := by
        rcases HC.out with e0 | h
        · subst e0; simp at hlt
        · exact h
      have HCB := hide hcb
      have HCT := hide hct
      have HCM := hide hcm
      have HPG := hide (pAt_good HGL.out hlt)
      have HPL := hide (pc_length HPG.out)
      have hix := p_at c ps.length q1 k (k : Int) rfl hlt
      have HRA : Hid (wr.rangeAt c (k * 34) (pc (pAt ps k))) := hide (hcb.range _ _ (by
        have hpa := pcs_at HGL.out hlt
        rw [← hct, List.drop_take, List.take_take] at hpa
        rw [HPL.out, ← hpa]
        congr 1
        have : (k + 1) * 34 ≤ ps.length * 34 := Nat.mul_le_mul_right 34 hlt
        omega))
      have EG : Hid (pG ps k = pAt ps k) := hide (by unfold pG; rw [if_pos hlt])
      clear hcb hct hcm HC
      gi_wp2_with (first | (refine istep_loadR .wide wP rfl rfl _ HRA.out HPL.out ?_) | (refine istep_alloc .wide zP rfl ?_))
      intro W2 g4 hg4 hle4 hb4
      gi_wp2_with (refine istep_storeA .wide wP rfl rfl rfl hg4 HPL.out (One.pc _) rfl ?_)
      intro W3 hg43 hbut
      have hb3 : Below wr.heap.size wr W3 := hb4.trans (hbut.below hle4)
      have HB3 := hide hb3
      have G4 := hide hg43
      have HJ3 := hide (hJ _ wr W3 none HJ.out (grown_none hb3) (fun r e => by cases e))
      clear hg4 hb4 hbut hg43 hb3
      have HDLk := hide (show (u8s (pAt ps k).2).length = 32 by rw [u8s_length, HPG.out.len])
      obtain ⟨fn, tmps, assign, body, hy, hR⟩ := hY (List.range k) k W3 HJ3.out (by rw [List.length_range]; exact hlt)
      simp only [EG.out] at hy
      have hwm : wrap64 ((k : Int) + 1) = (k : Int) + 1 := by unfold wrap64; have := HN.out; omega
      have HC3 : Hid (Blk W3 c 75 cs ∧ ¬ M W3 c) := hide ⟨HCB.out.below HB3.out HCB.out.lt, fun hm => HCM.out (hM.below wr W3 hnr HB3.out c HCB.out.lt hm)⟩
      gi_wp2_with (first | (refine istep_load .wide wNd rfl rfl G4.out (nC (pAt ps k).1) rfl rfl ?_) | (refine istep_load .wide wD rfl rfl G4.out (u8s (pAt ps k).2) HDLk.out (by exact List.take_of_length_le (by rw [show (pc (pAt ps k)).drop 2 = u8s (pAt ps k).2 from rfl, HDLk.out]; omega)) ?_))
      refine hR.mono ?_
      rintro r W4 (⟨rfl, hJ4, hk4⟩ | ⟨rfl, hJx4⟩)
      · have HJ4 := hide (show J (List.range (k + 1)) W4 by rw [List.range_succ]; exact hJ4)
        have HC4 : Hid (CL M (some ⟨c, 0, none⟩) ps W4) := hide (.inr ⟨c, cs, rfl, hk4.keep c _ HC3.out.1 rfl HC3.out.2, HCT.out, fun hm => HC3.out.2 (hk4.mine c HC3.out.1.lt hm)⟩)
        have hn4 : n₀ ≤ W4.heap.size := Nat.le_trans hnr (Nat.le_trans HB3.out.size hk4.size)
        clear hJ4 hk4
        gi_wp2
        go_roundw
        case rel => exact ⟨k + 1, by omega, by first | rfl | go_num, HJ4, HC4, hn4⟩
        case measure => rw [hwm]; exact meas_lt hlt
      · have HJx4 := hide hJx4
        clear hJx4
        gi_wp2
        refine bodyPost_ret (results_none rfl _ _ _) rfl ?_
        exact ⟨⟨_, rfl⟩, .inr ⟨_, by rw [← List.range_succ]; exact range_pre (by omega), HJx4.out⟩⟩
    · obtain rfl : k = ps.length := by omega
      have hlt' : ¬ ((ps.length : Int) < (ps.length : Int)) := by omega
      gi_wp2
      go_end0
      exact ⟨⟨_, rfl⟩, .inl HJ.out⟩

end Go.Proofs.YthgfbcndoedacaaDoor

/-
  A range over a function whose variables lie in blocks of their own.
-/
namespace Go.Proofs.YthgfbcndoedacaaDoor
open Go.RowKit Go.Shelf
set_option linter.unusedVariables false

theorem Blk.kept {A B : World} {g : Nat} {t : TypeId} {cs : List Value} {row : Option Nat} (h : Blk A g t cs) (hg : A.grownBy B row) (hr : ∀ r, row = some r → ∃ o : Obj, A.heap[r]? = some o ∧ o.isCells = false) : Blk B g t cs := by
  have e : B.heap[g]? = A.heap[g]? := hg.block g h.lt (fun e => by
    obtain ⟨o, ho, hc⟩ := hr g e.symm
    rw [h] at ho
    injection ho with ho
    subst ho
    cases hc)
  unfold Blk
  rw [e]
  exact h
theorem KT.kept {A B : World} {row : Option Nat} (h : KT A) (hg : A.grownBy B row) (hr : ∀ r, row = some r → 2 < r) : KT B := fun i hi => by
  rw [World.cell?_of_block (w := A) (hg.block 2 h.lt (fun e => by have := hr _ e.symm; omega))]
  exact h i hi

theorem range1 {F : Fence} {n : Nat} {P : Program} {α : Type} {g : Operand} {ps : Array Tmp} {assign body : Code} {Q : Exit → Act → World → Prop} {a : Act} {w : World}
    (hro : F.round = none) (h1 : 1 ≤ n) {gf : Nat} {lb : Array Value} (hg : a.eval g = .func (.func gf) #[] lb) (hFg : F.fn gf) (eg : ∀ args w, (callFunc gf args).run P w = .ok (.enter gf args) w)
    {encs : α → Array Value} {Kp : World → World → Prop} {S Sp : List α → Prop} {N : Nat} (hseq : SeqStopsK F (n - 1) P gf lb encs Kp S Sp N w)
    (hKt : ∀ {A B C : World}, Kp A B → Kp B C → Kp A C) (hKb : ∀ (W : World) (l : Nat) (o o' : Obj), w.heap.size ≤ l → W.heap[l]? = some o → o.isCells = false → o.isWalk = false → Kp W (W.putObj l o')) (hKs : ∀ A B, w.heap.size ≤ A.heap.size → Below A.heap.size A B → Kp A B) (hps : ∀ x, (encs x).size = ps.size)
    (I : List α → World → Prop) (Ix : Code → List α → World → Prop) (hI : OwnFrom w.heap.size I) (hIs : ∀ pre A, I pre A → w.heap.size ≤ A.heap.size) (hIx : ∀ c, OwnFrom w.heap.size (Ix c)) (h0 : I [] w) (t1 : TypeId) (c1 : α → List Value) (a₁ : α → Nat → Act)
    (hassign : ∀ (l : Nat) (x : α) (W : World) (K : Act → World → Prop), (∀ g1 W', Below W.heap.size W W' → Blk W' g1 t1 (c1 x) → K (a₁ x g1) W') →
      assign.wpIn (F.inRound l) (n - 1 - 1) P (Exit.then K (fun _ _ _ => False)) { tmps := (ps.zip (encs x)).foldl (fun t (p, v) => t.setIfInBounds p v) a.tmps, defers := [] } W)
    (hbody : ∀ (l : Nat) (pre : List α) (x : α) (g1 : Nat) (W : World), I pre W → Blk W g1 t1 (c1 x) → pre.length < N → body.wpIn (F.inRound l) (n - 1 - 1) P (ownPostG w.heap.size Kp I Ix (pre ++ [x]) W) (a₁ x g1) W)
    (hdone : ∀ (D : Nat) (xs : List α) (W : World), w.heap.size ≤ D → S xs → I xs W → W.heap[D]? = some (.deferred (some [])) → Q .normal { a with defers := { target := .collected D, args := #[] } :: a.defers } W)
    (hstop : ∀ (D : Nat) (c : Code) (pre : List α) (W : World), w.heap.size ≤ D → Sp pre → Ix c pre W → W.heap[D]? = some (.deferred (some [])) → c.wpIn F n P Q { a with defers := { target := .collected D, args := #[] } :: a.defers } W) :
    (Code.rangeFunc g ps assign body).wpIn F n P Q a w :=
  wpIn_rangeFunc_ownH hro h1 hg hFg eg hseq (fun h k => hKt h k) hKb (Below.refl _ _) hps I Ix hI hIx h0 (fun x a' W => ∃ g1, a' = a₁ x g1 ∧ Blk W g1 t1 (c1 x))
    (fun x a' _ A B row h hg hr => by obtain ⟨g1, e1, b1⟩ := h; exact ⟨g1, e1, b1.kept hg (fun r e => (hr r e).2)⟩)
    (fun l pre x W K hi hK => hassign l x W K fun g1 W' hb b1 => hK _ _ ((keepsO_below hb).from _) (hKs _ _ (hIs _ _ hi) hb) (hI _ _ _ none hi (grown_none hb) (fun r e => by cases e)) ⟨g1, rfl, b1⟩)
    (fun l pre x a' W _ _ hi ha hl => by obtain ⟨g1, rfl, b1⟩ := ha; exact hbody l pre x g1 W hi b1 hl) hdone hstop

theorem range2 {F : Fence} {n : Nat} {P : Program} {α : Type} {g : Operand} {ps : Array Tmp} {assign body : Code} {Q : Exit → Act → World → Prop} {a : Act} {w : World}
    (hro : F.round = none) (h1 : 1 ≤ n) {gf : Nat} {lb : Array Value} (hg : a.eval g = .func (.func gf) #[] lb) (hFg : F.fn gf) (eg : ∀ args w, (callFunc gf args).run P w = .ok (.enter gf args) w)
    {encs : α → Array Value} {Kp : World → World → Prop} {S Sp : List α → Prop} {N : Nat} (hseq : SeqStopsK F (n - 1) P gf lb encs Kp S Sp N w)
    (hKt : ∀ {A B C : World}, Kp A B → Kp B C → Kp A C) (hKb : ∀ (W : World) (l : Nat) (o o' : Obj), w.heap.size ≤ l → W.heap[l]? = some o → o.isCells = false → o.isWalk = false → Kp W (W.putObj l o')) (hKs : ∀ A B, w.heap.size ≤ A.heap.size → Below A.heap.size A B → Kp A B) (hps : ∀ x, (encs x).size = ps.size)
    (I : List α → World → Prop) (Ix : Code → List α → World → Prop) (hI : OwnFrom w.heap.size I) (hIs : ∀ pre A, I pre A → w.heap.size ≤ A.heap.size) (hIx : ∀ c, OwnFrom w.heap.size (Ix c)) (h0 : I [] w) (t1 t2 : TypeId) (c1 c2 : α → List Value) (a₁ : α → Nat → Nat → Act)
    (hassign : ∀ (l : Nat) (x : α) (W : World) (K : Act → World → Prop), (∀ g1 g2 W', Below W.heap.size W W' → Blk W' g1 t1 (c1 x) → Blk W' g2 t2 (c2 x) → K (a₁ x g1 g2) W') →
      assign.wpIn (F.inRound l) (n - 1 - 1) P (Exit.then K (fun _ _ _ => False)) { tmps := (ps.zip (encs x)).foldl (fun t (p, v) => t.setIfInBounds p v) a.tmps, defers := [] } W)
    (hbody : ∀ (l : Nat) (pre : List α) (x : α) (g1 g2 : Nat) (W : World), I pre W → Blk W g1 t1 (c1 x) → Blk W g2 t2 (c2 x) → pre.length < N → body.wpIn (F.inRound l) (n - 1 - 1) P (ownPostG w.heap.size Kp I Ix (pre ++ [x]) W) (a₁ x g1 g2) W)
    (hdone : ∀ (D : Nat) (xs : List α) (W : World), w.heap.size ≤ D → S xs → I xs W → W.heap[D]? = some (.deferred (some [])) → Q .normal { a with defers := { target := .collected D, args := #[] } :: a.defers } W)
    (hstop : ∀ (D : Nat) (c : Code) (pre : List α) (W : World), w.heap.size ≤ D → Sp pre → Ix c pre W → W.heap[D]? = some (.deferred (some [])) → c.wpIn F n P Q { a with defers := { target := .collected D, args := #[] } :: a.defers } W) :
    (Code.rangeFunc g ps assign body).wpIn F n P Q a w :=
  wpIn_rangeFunc_ownH hro h1 hg hFg eg hseq (fun h k => hKt h k) hKb (Below.refl _ _) hps I Ix hI hIx h0 (fun x a' W => ∃ g1 g2, a' = a₁ x g1 g2 ∧ Blk W g1 t1 (c1 x) ∧ Blk W g2 t2 (c2 x))
    (fun x a' _ A B row h hg hr => by obtain ⟨g1, g2, e1, b1, b2⟩ := h; exact ⟨g1, g2, e1, b1.kept hg (fun r e => (hr r e).2), b2.kept hg (fun r e => (hr r e).2)⟩)
    (fun l pre x W K hi hK => hassign l x W K fun g1 g2 W' hb b1 b2 => hK _ _ ((keepsO_below hb).from _) (hKs _ _ (hIs _ _ hi) hb) (hI _ _ _ none hi (grown_none hb) (fun r e => by cases e)) ⟨g1, g2, rfl, b1, b2⟩)
    (fun l pre x a' W _ _ hi ha hl => by obtain ⟨g1, g2, rfl, b1, b2⟩ := ha; exact hbody l pre x g1 g2 W hi b1 b2 hl) hdone hstop

theorem POwn.kept {A B : World} {B0 : Nat} {v : Value} {ps : List Pt} {row : Option Nat} (h : POwn A B0 v ps) (hg : A.grownBy B row) (hr : ∀ r, row = some r → ∃ o : Obj, A.heap[r]? = some o ∧ o.isCells = false) : POwn B B0 v ps := by
  obtain ⟨h1, h2⟩ := h
  refine ⟨h1, ?_⟩
  rcases h2 with h2 | ⟨k, cap, cur, rfl, hk, hh, r⟩
  · exact .inl h2
  · refine .inr ⟨k, cap, cur, rfl, hk, ?_, r⟩
    rw [hg.block k (Array.getElem?_eq_some_iff.1 hh).1 (fun e => by
      obtain ⟨o, ho, hc⟩ := hr k e.symm
      rw [hh] at ho
      injection ho with ho
      subst ho
      cases hc)]
    exact hh
theorem Rg.kept {A B : World} {B0 g b e : Nat} {v : Value} {ps : List Pt} {row : Option Nat} (h : Rg A B0 g b e v ps) (hg : A.grownBy B row) (hr : ∀ r, row = some r → ∃ o : Obj, A.heap[r]? = some o ∧ o.isCells = false) : Rg B B0 g b e v ps := ⟨h.blk.kept hg hr, h.own.kept hg hr, h.good, h.nodes, h.le, h.max⟩

end Go.Proofs.YthgfbcndoedacaaDoor

/-
  Where a span's parts begin, without a program.
-/
namespace Go.Proofs.YthgfbcndoedacaaDoor
open Go.RowKit Go.Shelf
set_option linter.unusedVariables false

/-- How many leaves some nodes have. -/
def psum : List (Nat × Nat) → Nat
  | [] => 0
  | n :: L => 2 ^ n.1 + psum L
theorem psum_lt : ∀ (L : List (Nat × Nat)) (i j : Nat), i < j → j ≤ L.length → psum (L.take i) < psum (L.take j)
  | [], i, j, h, h2 => by simp at h2; omega
  | n :: L, i, 0, h, _ => by omega
  | n :: L, 0, j + 1, _, _ => by
    have := Nat.two_pow_pos n.1
    simp only [List.take_zero, List.take_succ_cons, psum]
    omega
  | n :: L, i + 1, j + 1, h, h2 => by
    simp only [List.take_succ_cons, psum]
    have := psum_lt L i j (by omega) (by simpa using h2)
    omega
theorem psum_succ : ∀ (L : List (Nat × Nat)) (i : Nat) (q : Nat × Nat), L[i]? = some q → psum (L.take (i + 1)) = psum (L.take i) + 2 ^ q.1
  | [], i, q, h => by simp at h
  | n :: L, 0, q, h => by
    simp at h
    subst h
    simp [psum]
  | n :: L, i + 1, q, h => by
    have := psum_succ L i q (by simpa using h)
    simp only [List.take_succ_cons, psum] at this ⊢
    omega
theorem parts_begin (n : Nat) : ∀ (b e : Nat), e - b ≤ n → b ≤ e → e ≤ 2 ^ 48 → (∀ i q, (parts b e)[i]? = some q → q.2 * 2 ^ q.1 = b + psum ((parts b e).take i) ∧ (q.2 + 1) * 2 ^ q.1 ≤ e) ∧ b + psum (parts b e) = e := by
  induction n with
  | zero =>
    intro b e hn hbe hm
    obtain rfl : b = e := by omega
    rw [parts_nil (Nat.le_refl _)]
    exact ⟨fun i q h => by simp at h, rfl⟩
  | succ n ih =>
    intro b e hn hbe hm
    by_cases hlt : b < e
    · have hk := lv_isLev (b := b) (n := e - b) (by omega) (by omega)
      rw [parts_step hk hm]
      generalize lv b (e - b) = k at *
      have hp := Nat.two_pow_pos k
      have hkl := hk.le
      obtain ⟨h1, h2⟩ := ih (b + 2 ^ k) e (by omega) (by omega) hm
      have e1 := mul_div_pow hk.dvd
      refine ⟨?_, by simp only [psum]; omega⟩
      intro i q hq
      cases i with
      | zero =>
        simp at hq
        subst hq
        simp only [List.take_zero, psum]
        refine ⟨by rw [e1, Nat.add_zero], ?_⟩
        rw [Nat.add_mul, e1]
        omega
      | succ i =>
        have := h1 i q (by simpa using hq)
        simp only [List.take_succ_cons, psum]
        omega
    · obtain rfl : b = e := by omega
      rw [parts_nil (Nat.le_refl _)]
      exact ⟨fun i q h => by simp at h, rfl⟩
/-- Where the i-th part begins. -/
def pbeg (b e i : Nat) : Nat := b + psum ((parts b e).take i)
theorem pbeg_zero (b e : Nat) : pbeg b e 0 = b := by simp [pbeg, psum]
theorem pbeg_end {b e : Nat} (hbe : b ≤ e) (hm : e ≤ 2 ^ 48) : pbeg b e (parts b e).length = e := by
  unfold pbeg
  rw [List.take_length]
  exact (parts_begin (e - b) b e (Nat.le_refl _) hbe hm).2
theorem pbeg_at {b e i : Nat} {q : Nat × Nat} (hbe : b ≤ e) (hm : e ≤ 2 ^ 48) (h : (parts b e)[i]? = some q) : q.2 * 2 ^ q.1 = pbeg b e i ∧ pbeg b e (i + 1) = pbeg b e i + 2 ^ q.1 ∧ pbeg b e (i + 1) ≤ e := by
  obtain ⟨h1, h2⟩ := (parts_begin (e - b) b e (Nat.le_refl _) hbe hm).1 i q h
  unfold pbeg at *
  rw [psum_succ _ _ _ h]
  rw [Nat.add_mul] at h2
  omega
theorem pbeg_ne {b e i j : Nat} (h : i ≠ j) (hi : i ≤ (parts b e).length) (hj : j ≤ (parts b e).length) : pbeg b e i ≠ pbeg b e j := by
  unfold pbeg
  rcases Nat.lt_or_gt_of_ne h with h | h
  · have := psum_lt _ _ _ h hj; omega
  · have := psum_lt _ _ _ h hi; omega
theorem parts_drop_aux (n : Nat) : ∀ (b e k : Nat), e - b ≤ n → e ≤ 2 ^ 48 → (parts b e).drop k = parts (pbeg b e k) e := by
  induction n with
  | zero =>
    intro b e k hn hm
    unfold pbeg
    rw [parts_nil (show e ≤ b by omega)]
    simp [psum, parts_nil (show e ≤ b by omega)]
  | succ n ih =>
    intro b e k hn hm
    by_cases hlt : b < e
    · cases k with
      | zero => rw [pbeg_zero]; rfl
      | succ k =>
        have hk := lv_isLev (b := b) (n := e - b) (by omega) (by omega)
        have e1 := parts_step hk hm
        have hp := Nat.two_pow_pos (lv b (e - b))
        have e2 : pbeg b e (k + 1) = pbeg (b + 2 ^ lv b (e - b)) e k := by
          unfold pbeg
          rw [e1]
          simp only [List.take_succ_cons, psum]
          omega
        rw [e1, e2]
        exact ih _ e k (by omega) hm
    · unfold pbeg
      rw [parts_nil (show e ≤ b by omega)]
      simp [psum, parts_nil (show e ≤ b by omega)]
theorem parts_drop (b e k : Nat) (hm : e ≤ 2 ^ 48) : (parts b e).drop k = parts (pbeg b e k) e := parts_drop_aux (e - b) b e k (Nat.le_refl _) hm

end Go.Proofs.YthgfbcndoedacaaDoor

/-
  nodesOf: the iterator of a span's parts.
-/
namespace Go.Proofs.YthgfbcndoedacaaDoor
open Go.RowKit Go.Shelf
set_option linter.unusedVariables false

theorem nodes_any (b e : Int) (w : World) : Calls Tryd.prog 37 #[.agg #[.int .i64 b, .int .i64 e]] w fun r w' => ∃ gs, r = .returned (.func (.func 55) #[] #[.pointer (some ⟨gs, 0, none⟩)]) ∧ Blk w' gs 51 [.int .i64 b, .int .i64 e] ∧ w.heap.size ≤ gs ∧ Below w.heap.size w w' := by
  go_enter Tryd.func37, Tryd.ntmps37
  go_wp2_with (refine step_box (cs := [.int .i64 b, .int .i64 e]) rfl rfl ?_)
  intro w1 g1 hg1 hle1 hb1
  go_wp2
  go_ret
  exact ⟨g1, rfl, hg1, hle1, hb1⟩

/-- The i-th node. -/
def nG (b e i : Nat) : Nat × Nat := (parts b e).getD i (0, 0)
/-- What the iterator reads. -/
def NK (M : World → Nat → Prop) (gs b e : Nat) (W : World) : Prop := Blk W gs 51 [.int .i64 (b : Int), .int .i64 (e : Int)] ∧ TT W ∧ ¬ M W gs ∧ ¬ M W 1 ∧ ∃ o : Obj, W.heap[1]? = some o ∧ o.isCells = true
theorem NK.km {M : World → Nat → Prop} {gs b e : Nat} {A B : World} (x : NK M gs b e A) (k : KM M A B) : NK M gs b e B := by
  obtain ⟨x1, x2, x3, x4, o, x5, x6⟩ := x
  have hk := k.keep _ o x5 x6 x4
  exact ⟨k.keep gs _ x1 rfl x3, x2.block (hk.trans x5.symm), fun hm => x3 (k.mine gs x1.lt hm), fun hm => x4 (k.mine _ x2.lt hm), o, hk, x6⟩
theorem NK.below {n₀ : Nat} {M : World → Nat → Prop} (hM : Mine n₀ M) {gs b e : Nat} {A B : World} (x : NK M gs b e A) (hn : n₀ ≤ A.heap.size) (hb : Below A.heap.size A B) : NK M gs b e B := by
  obtain ⟨x1, x2, x3, x4, o, x5, x6⟩ := x
  exact ⟨x1.below hb x1.lt, x2.below hb x2.lt, fun hm => x3 (hM.below A B hn hb gs x1.lt hm), fun hm => x4 (hM.below A B hn hb _ x2.lt hm), o, (hb.block _ x2.lt).trans x5, x6⟩
theorem nz_lt {s u e : Nat} (h : s < u) (h2 : s < e) : e - (intOf (.int .i64 (u : Int))).toNat < e - (intOf (.int .i64 (s : Int))).toNat := by
  simp only [intOf]
  omega
/-- The numbers of a round. -/
theorem nz_facts {b e k at' : Nat} (hbe : b ≤ e) (he : e ≤ 281474976710656) (hk : k < (parts b e).length) (hat : at' = pbeg b e k) :
    ∃ c l L P : Nat, Hid (Lib.ctz 64 at' = c) ∧ Hid (Lib.bitLen (e - at') = l) ∧ min (c : Int) ((l : Int) - 1) = (L : Int) ∧ Hid (2 ^ L = P) ∧ Hid (nG b e k = (L, at' / P)) ∧ at' + P = pbeg b e (k + 1) ∧ at' + P ≤ e ∧ at' < e ∧ (c ≤ 64 ∧ l ≤ 64 ∧ L ≤ 48) ∧ P ≤ 281474976710656 := by
  obtain ⟨q, hq⟩ : ∃ q, (parts b e)[k]? = some q := ⟨_, List.getElem?_eq_getElem hk⟩
  obtain ⟨h1, h2, h3⟩ := pbeg_at hbe he hq
  have hlt : at' < e := by rw [hat]; rw [h2] at h3; have := Nat.two_pow_pos q.1; omega
  have h64 : at' < 2 ^ 64 := Nat.lt_of_lt_of_le hlt (Nat.le_trans he (by decide))
  have hlv := lev_min at' (e - at') h64 (by omega) (Nat.le_trans (Nat.sub_le _ _) he)
  -- the part at k is the first part of what is left
  have hfirst : (parts at' e)[0]? = some q := by
    have := parts_drop b e k he
    rw [← hat] at this
    rw [← this, List.getElem?_drop]
    exact hq
  rw [parts_step hlv he] at hfirst
  simp only [List.getElem?_cons_zero, Option.some.injEq] at hfirst
  refine ⟨_, _, min (Lib.ctz 64 at') (Lib.bitLen (e - at') - 1), _, hide rfl, hide rfl, ?_, hide rfl, hide ?_, ?_, ?_, hlt, ⟨?_, ?_, ?_⟩, ?_⟩
  · have hl0 := (bitLen_pow (e - at') (e - at') (Nat.le_refl _) (by omega) (Nat.lt_of_le_of_lt (Nat.le_trans (Nat.sub_le _ _) he) (by decide))).1
    generalize Lib.ctz 64 at' = c at *
    generalize Lib.bitLen (e - at') = l at *
    omega
  · unfold nG
    rw [List.getD, hq, ← hfirst]
    rfl
  · rw [h2, ← hfirst, hat]
  · rw [h2, ← hfirst, ← hat] at h3
    exact h3
  · by_cases h0 : at' = 0
    · rw [h0]; decide
    · exact Nat.le_of_lt (Lib.lowest_bit 64 at' h0 h64).2
  · exact Lib.bitLen_le _ 64 (Nat.le_refl _) (Nat.lt_of_le_of_lt (Nat.le_trans (Nat.sub_le _ _) he) (by decide))
  · exact lev_le hlv (Nat.le_trans (Nat.sub_le _ _) he)
  · exact Nat.le_trans (Nat.pow_le_pow_right (by decide) (lev_le hlv (Nat.le_trans (Nat.sub_le _ _) he))) (by decide)

theorem aux_addW (s P u : Nat) (h : s + P = u) (hu : u ≤ 281474976710656) : wrap64 ((s : Int) + (P : Int)) = (u : Int) := by
  unfold wrap64
  omega
theorem aux_shr (a L P : Nat) (HP : Hid (2 ^ L = P)) : ((a : Int)) / (2 ^ L) = (a : Int) / (P : Int) := by
  rw [← HP.out, Int.natCast_pow]
  rfl

set_option maxRecDepth 100000 in
set_option maxHeartbeats 1000000 in
theorem nodes_stops (gs n₀ b e : Nat) (w : World) (hn0 : n₀ ≤ w.heap.size) (hbe : b ≤ e) (he : e ≤ 281474976710656) (M : World → Nat → Prop) (hM : Mine n₀ M) (hnk : NK M gs b e w) :
    SeqStopsK Fence.wide 2 Tryd.prog 55 #[.pointer (some ⟨gs, 0, none⟩)] (fun i : Nat => #[Value.agg (nC (nG b e i)).toArray]) (KM M) (fun xs => xs = List.range (parts b e).length) (fun pre => pre <+: List.range (parts b e).length) (parts b e).length w := by
  intro l J Jx W hW hJ hJx hY h0
  have HNK := hide (hnk.below hM hn0 hW)
  have hnW : n₀ ≤ W.heap.size := Nat.le_trans hn0 hW.size
  have c0 : W.cell? ⟨gs, 0, none⟩ = some (.int .i64 (b : Int)) := by rw [HNK.out.1.cell]; rfl
  have HJ0 := hide h0
  clear hnk hW h0
  refine callsIn_of_wp Tryd.func55 rfl trivial ?_ rfl
  simp only [Tryd.ntmps55, List.size_toArray, List.length_cons, List.length_nil, Nat.reduceAdd, Nat.reduceSub, Array.replicate_succ, Array.replicate_zero, List.push_toArray, List.append_toArray, List.nil_append, List.cons_append]
  gi_wp2_with fail
  gi_loopw [3] (fun i wr => ∃ k : Nat, k ≤ (parts b e).length ∧ i = .int .i64 (pbeg b e k : Int) ∧ Hid (J (List.range k) wr) ∧ Hid (NK M gs b e wr) ∧ n₀ ≤ wr.heap.size) (fun i _ => e - (intOf i).toNat)
  case atStart => exact ⟨0, Nat.zero_le _, by rw [pbeg_zero], HJ0, HNK, hnW⟩
  case round =>
    obtain ⟨k, hk, rfl, HJ, HN, hnr⟩ := hrel
    clear HJ0 HNK hnW c0
    have c1 : wr.cell? ⟨gs, 1, none⟩ = some (.int .i64 (e : Int)) := by rw [HN.out.1.cell]; rfl
    obtain ⟨s, HSx⟩ : ∃ s, Hid (pbeg b e k = s) := ⟨_, hide rfl⟩
    rw [HSx.out]
    by_cases hlt : k < (parts b e).length
    · obtain ⟨c, l', L, P, HC, HL, hmin, HP, HG, hu, hue, hse, hcl, hPm⟩ := nz_facts hbe he hlt HSx.out.symm
      have hlt' : (s : Int) < (e : Int) := by omega
      obtain ⟨m, hm⟩ : ∃ m, e - s = m := ⟨_, rfl⟩
      rw [hm] at HL
      have hsub : wrap64 ((e : Int) - (s : Int)) = (m : Int) := by unfold wrap64; omega
      have hwm : IntKind.u64.wrap (m : Int) = (m : Int) := by rw [IntKind.wrap_u64]; omega
      have hws : IntKind.u64.wrap (s : Int) = (s : Int) := by rw [IntKind.wrap_u64]; omega
      have hl1 : wrap64 ((l' : Int) - 1) = (l' : Int) - 1 := by unfold wrap64; omega
      have hsub2 : IntKind.i64.wrap ((e : Int) - (s : Int)) = (m : Int) := by rw [IntKind.wrap_i64]; omega
      have hl2 : IntKind.i64.wrap ((l' : Int) - 1) = (l' : Int) - 1 := by rw [IntKind.wrap_i64]; omega
      have HTZ : Hid (∀ q, Calls Tryd.prog 56 #[.int .u64 (s : Int)] (wr.drewN q) fun e w' => e = .returned (.int .i64 (c : Int)) ∧ wr.drewN q = w') := hide (fun q => by
        have := tz_any s (wr.drewN q) (by omega) (fun i hi => HN.out.2.1 i hi)
        rw [HC.out] at this
        exact this.mono fun e w' h => ⟨h.1, h.2.symm⟩)
      have HLN : Hid (∀ q, Calls Tryd.prog 57 #[.int .u64 (m : Int)] (wr.drewN q) fun e w' => e = .returned (.int .i64 (l' : Int)) ∧ wr.drewN q = w') := hide (fun q => by
        have := len_any (m : Int) (wr.drewN q) (by omega) (by omega)
        rw [Int.toNat_natCast, HL.out] at this
        exact this.mono fun e w' h => ⟨h.1, h.2.symm⟩)
      obtain ⟨u, hu2⟩ : ∃ u, s + P = u := ⟨_, rfl⟩
      rw [hu2] at hu hue
      have hm64 : min L 64 = L := by omega
      have hL0 : ¬ (L : Int) < 0 := by omega
      have hsu : s < u := by rw [← hu2, ← HP.out]; exact Nat.lt_add_of_pos_right (Nat.two_pow_pos L)
      have had := aux_addW s P u hu2 (Nat.le_trans hue he)
      have HU := hide hu
      have hshr := aux_shr s L P HP
      have hpw : wrap64 (2 ^ L) = (P : Int) := aux_pow P L HP hPm
      clear hm hu hcl hu2
      gi_wp2_with fail
      refine wpIn_wide.2 ?_
      go_quiet (first | (go_at_call 56; refine quiet_eq (HTZ.out _)) | (go_at_call 57; refine quiet_eq (HLN.out _)))
      have hbd : Below wr.heap.size wr (wr.drewN nq) := below_drewN (Below.refl _ _) nq
      have HJ2 := hide (hJ _ wr (wr.drewN nq) none HJ.out (grown_none hbd) (fun r e => by cases e))
      have HN2 := hide (HN.out.below hM hnr hbd)
      have hn2 : n₀ ≤ (wr.drewN nq).heap.size := hnr
      clear hbd HJ HN hnr c1 HTZ HLN
      revert HJ2 HN2 hn2
      generalize wr.drewN nq = W2
      intro HJ2 HN2 hn2
      obtain ⟨fn, tmps, assign, body, hy, hR⟩ := hY (List.range k) k W2 HJ2.out (by rw [List.length_range]; exact hlt)
      simp only [HG.out, nC, Int.natCast_ediv] at hy
      gi_wp2_with fail
      refine hR.mono ?_
      rintro r W4 (⟨rfl, hJ4, hk4⟩ | ⟨rfl, hJx4⟩)
      · have HJ4 := hide (show J (List.range (k + 1)) W4 by rw [List.range_succ]; exact hJ4)
        have HN4 := hide (HN2.out.km hk4)
        have hn4 : n₀ ≤ W4.heap.size := Nat.le_trans hn2 hk4.size
        clear hJ4 hk4 hy hsub hsub2 hl1 hl2 hmin hwm hws hshr HC HL HG hlt' hPm HJ2 HN2
        gi_wp2
        go_roundw
        case rel => exact ⟨k + 1, hlt, by rw [had, ← HU.out], HJ4, HN4, hn4⟩
        case measure => rw [had]; exact nz_lt hsu hse
      · have HJx4 := hide hJx4
        clear hJx4 hy hsub hsub2 hl1 hl2 hmin hwm hws hshr hm64 HC HL HG hlt' hPm hL0 HJ2 HN2 hpw had
        gi_wp2
        refine bodyPost_ret (results_none rfl _ _ _) rfl ?_
        exact ⟨⟨_, rfl⟩, .inr ⟨_, by rw [← List.range_succ]; exact range_pre hlt, HJx4.out⟩⟩
    · obtain rfl : k = (parts b e).length := by omega
      have hse : s = e := by rw [← HSx.out]; exact pbeg_end hbe he
      have hlt' : ¬ ((s : Int) < (e : Int)) := by omega
      gi_wp2
      go_end0
      exact ⟨⟨_, rfl⟩, .inl HJ.out⟩

end Go.Proofs.YthgfbcndoedacaaDoor

/-
  AppendNode of anything; Clone of a range; what belongs to a range, as it goes on.
-/
namespace Go.Proofs.YthgfbcndoedacaaDoor
open Go.RowKit Go.Shelf
set_option linter.unusedVariables false

/-- What AppendNode answers. -/
def apE (e : Nat) (l : Int) : Int := if l < 0 ∨ 48 < l then 2 else if e % 2 ^ l.toNat ≠ 0 then 50 else if 281474976710656 - e < 2 ^ l.toNat then 3 else 0
theorem aux_rem2 (e P : Nat) : ((e : Int)).tmod (P : Int) = ((e % P : Nat) : Int) := by
  rw [Int.tmod_eq_emod_of_nonneg (by omega), Int.natCast_emod]
theorem pow48 {L : Nat} (h : L ≤ 48) : 2 ^ L ≤ 281474976710656 := Nat.le_trans (Nat.pow_le_pow_right (by decide) h) (by decide)
theorem ne0_cast {m : Nat} (h : m ≠ 0) : ¬ ((m : Int) = 0) := fun e => h (by omega)
theorem aux_big (e P : Nat) (h : e ≤ 281474976710656) (h1 : 281474976710656 - e < P) : 281474976710656 - (e : Int) < (P : Int) := by omega

set_option maxRecDepth 100000 in
set_option maxHeartbeats 400000 in
theorem appN_bad (B g b e : Nat) (l : Int) (v : Value) (ps : List Pt) (d : List Int) (w : World) (hr : Rg w B g b e v ps) (hb : apE e l ≠ 0) :
    Calls Tryd.prog 11 #[.pointer (some ⟨g, 0, none⟩), .int .i64 l, .agg (u8s d).toArray] w fun r w' => r = .returned (.int .i64 (apE e l)) ∧ Below w.heap.size w w' := by
  have HR := hide hr
  have hmax := hr.max
  clear hr
  by_cases h1 : l < 0
  · have e1 : apE e l = 2 := by unfold apE; rw [if_pos (.inl h1)]
    rw [e1]
    clear hb e1
    go_enter Tryd.func11, Tryd.ntmps11
    go_wp2_with (refine step_box rfl rfl ?_)
    intro w1 g5 hg5 hle5 hb1
    have R1 := hide (HR.out.below hb1)
    have c0 : w1.cell? ⟨g, 0, none⟩ = some (.bool true) := by rw [R1.out.blk.cell]; rfl
    have c2 : w1.cell? ⟨g, 2, none⟩ = some (.int .i64 (e : Int)) := by rw [R1.out.blk.cell]; rfl
    clear hg5
    go_wp2_with (go_at_call 29; refine (made_is _ _ c0).mono ?_; rintro e w' ⟨rfl, rfl⟩)
    go_ret
    exact ⟨rfl, hb1⟩
  by_cases h2 : 48 < l
  · have e1 : apE e l = 2 := by unfold apE; rw [if_pos (.inr h2)]
    rw [e1]
    clear hb e1
    go_enter Tryd.func11, Tryd.ntmps11
    go_wp2_with (refine step_box rfl rfl ?_)
    intro w1 g5 hg5 hle5 hb1
    have R1 := hide (HR.out.below hb1)
    have c0 : w1.cell? ⟨g, 0, none⟩ = some (.bool true) := by rw [R1.out.blk.cell]; rfl
    have c2 : w1.cell? ⟨g, 2, none⟩ = some (.int .i64 (e : Int)) := by rw [R1.out.blk.cell]; rfl
    clear hg5
    go_wp2_with (go_at_call 29; refine (made_is _ _ c0).mono ?_; rintro e w' ⟨rfl, rfl⟩)
    go_ret
    exact ⟨rfl, hb1⟩
  obtain ⟨L, rfl⟩ : ∃ L : Nat, l = (L : Int) := ⟨l.toNat, by omega⟩
  have hL : L ≤ 48 := by omega
  obtain ⟨P, HP⟩ : ∃ P, Hid (2 ^ L = P) := ⟨_, hide rfl⟩
  have hPm : P ≤ 281474976710656 := by rw [← HP.out]; exact pow48 hL
  have hpw := aux_pow P L HP hPm
  have hP0 : ¬ (P : Int) = 0 := by have : 0 < P := by rw [← HP.out]; exact Nat.two_pow_pos L
                                   omega
  have hrem := aux_rem2 e P
  by_cases h3 : e % P = 0
  · by_cases h4 : 281474976710656 - e < P
    · have e1 : apE e (L : Int) = 3 := by
        unfold apE
        rw [if_neg (by omega), Int.toNat_natCast, HP.out, if_neg (by simpa using h3), if_pos h4]
      rw [e1]
      rw [h3] at hrem
      have hsub := aux_sub e hmax
      have hgt := aux_big e P hmax h4
      have hrem2 : ((e : Int)).tmod (P : Int) = 0 := hrem
      clear hb e1 h3 h4 hrem
      go_enter Tryd.func11, Tryd.ntmps11
      go_wp2_with (refine step_box rfl rfl ?_)
      intro w1 g5 hg5 hle5 hb1
      have R1 := hide (HR.out.below hb1)
      have c0 : w1.cell? ⟨g, 0, none⟩ = some (.bool true) := by rw [R1.out.blk.cell]; rfl
      have c2 : w1.cell? ⟨g, 2, none⟩ = some (.int .i64 (e : Int)) := by rw [R1.out.blk.cell]; rfl
      clear hg5
      go_wp2_with (go_at_call 29; refine (made_is _ _ c0).mono ?_; rintro e w' ⟨rfl, rfl⟩)
      go_ret
      exact ⟨rfl, hb1⟩
    · exfalso
      apply hb
      unfold apE
      rw [if_neg (by omega), Int.toNat_natCast, HP.out, if_neg (by simpa using h3), if_neg h4]
  · have e1 : apE e (L : Int) = 50 := by
      unfold apE
      rw [if_neg (by omega), Int.toNat_natCast, HP.out, if_pos h3]
    rw [e1]
    obtain ⟨m, HM⟩ : ∃ m, Hid (e % P = m) := ⟨_, hide rfl⟩
    rw [HM.out] at hrem h3
    have hm0 := ne0_cast h3
    clear hb e1 h3
    go_enter Tryd.func11, Tryd.ntmps11
    go_wp2_with (refine step_box rfl rfl ?_)
    intro w1 g5 hg5 hle5 hb1
    have R1 := hide (HR.out.below hb1)
    have c0 : w1.cell? ⟨g, 0, none⟩ = some (.bool true) := by rw [R1.out.blk.cell]; rfl
    have c2 : w1.cell? ⟨g, 2, none⟩ = some (.int .i64 (e : Int)) := by rw [R1.out.blk.cell]; rfl
    clear hg5
    go_wp2_with (go_at_call 29; refine (made_is _ _ c0).mono ?_; rintro e w' ⟨rfl, rfl⟩)
    go_ret
    exact ⟨rfl, hb1⟩
theorem apE_zero {e : Nat} {l : Int} (he : e ≤ 281474976710656) (h : apE e l = 0) : ∃ L : Nat, l = (L : Int) ∧ L ≤ 48 ∧ 2 ^ L ∣ e ∧ e + 2 ^ L ≤ 281474976710656 := by
  unfold apE at h
  split at h
  · cases h
  rename_i h1
  split at h
  · cases h
  rename_i h2
  split at h
  · cases h
  rename_i h3
  refine ⟨l.toNat, by omega, by omega, Nat.dvd_of_mod_eq_zero (by simpa using h2), ?_⟩
  generalize 2 ^ l.toNat = P at *
  omega
theorem apE_ok {e L : Nat} (hL : L ≤ 48) (hd : 2 ^ L ∣ e) (hm : e + 2 ^ L ≤ 281474976710656) : apE e (L : Int) = 0 := by
  unfold apE
  rw [if_neg (by omega), Int.toNat_natCast, if_neg (by simpa using Nat.mod_eq_zero_of_dvd hd)]
  generalize 2 ^ L = P at *
  rw [if_neg (by omega)]
/-- Where a range's parts lie behind a call. -/
def Moved (w : World) (v v' : Value) : Prop := ∀ k, v'.ownBlock = some k → v.ownBlock = some k ∨ w.heap.size ≤ k
/-- AppendNode, whatever it is given. -/
theorem appN_any (B g b e : Nat) (l : Int) (v : Value) (ps : List Pt) (d : List Int) (w : World) (hr : Rg w B g b e v ps) (hB : B ≤ w.heap.size) (hk : KT w) (hkg : 2 < g) (hkB : 2 < B) (hdl : d.length = 32) (hdb : isB d) :
    Calls Tryd.prog 11 #[.pointer (some ⟨g, 0, none⟩), .int .i64 l, .agg (u8s d).toArray] w fun r w' => ∃ e' v' ps', r = .returned (.int .i64 (apE e l)) ∧ Rg w' B g b e' v' ps' ∧ Chs (Foot g v) w w' ∧ Moved w v v' ∧
      (apE e l ≠ 0 → e' = e ∧ ps' = ps) ∧ (apE e l = 0 → e' = e + 2 ^ l.toNat ∧ ps' = putL ps ((l.toNat, e / 2 ^ l.toNat), d)) := by
  by_cases h : apE e l = 0
  · obtain ⟨L, rfl, hL, hdv, hm⟩ := apE_zero hr.max h
    refine (appN_ok B g b e L v ps d w hr hB hk hkg hkB hL hdv hm hdl hdb).mono ?_
    rintro r w' ⟨v', rfl, h1, h2, h3⟩
    exact ⟨_, v', _, by rw [h], h1, h2, h3, fun hn => absurd h hn, fun _ => ⟨rfl, rfl⟩⟩
  · refine (appN_bad B g b e l v ps d w hr h).mono ?_
    rintro r w' ⟨rfl, hb⟩
    exact ⟨e, v, ps, rfl, hr.below hb, (Chs.refl _ _).thenBelow hb, fun k hk => .inl hk, fun _ => ⟨rfl, rfl⟩, fun h0 => absurd h0 h⟩

/-- The blocks of a range, as it stands. -/
def MR (g : Nat) (A : World) (k : Nat) : Prop := k = g ∨ ∃ n c, A.cell? ⟨g, 3, none⟩ = some (.slice (some ⟨k, 0, none⟩) n c)
theorem Mine.range {n₀ g : Nat} (h : g < n₀) : Mine n₀ (MR g) := by
  refine ⟨fun A B hn hb k hk hm => hm.imp id ?_, fun A l o hl hlt k hk hm => hm.imp id ?_⟩
  · rintro ⟨n, c, e⟩
    refine ⟨n, c, ?_⟩
    rw [← World.cell?_of_block (w := A) (w' := B) (a := ⟨g, 3, none⟩) (hb.block g (by omega))]
    exact e
  · rintro ⟨n, c, e⟩
    refine ⟨n, c, ?_⟩
    rw [← World.cell?_of_block (w := A) (w' := A.putObj l o) (a := ⟨g, 3, none⟩) (World.putObj_heap_other (by show g ≠ l; omega))]
    exact e
theorem Rg.c3 {w : World} {B g b e : Nat} {v : Value} {ps : List Pt} (h : Rg w B g b e v ps) : w.cell? ⟨g, 3, none⟩ = some v := by rw [h.blk.cell]; rfl
theorem Rg.foot_mr {w : World} {B g b e : Nat} {v : Value} {ps : List Pt} (h : Rg w B g b e v ps) (k : Nat) (hk : Foot g v k) : MR g w k := by
  refine hk.imp id fun e1 => ?_
  rcases h.own.lies with ⟨rfl, _⟩ | ⟨g', c, cs, rfl, _⟩
  · cases e1
  · injection e1 with e1
    subst e1
    exact ⟨_, _, h.c3⟩
theorem Rg.mr_foot {w : World} {B g b e : Nat} {v : Value} {ps : List Pt} (h : Rg w B g b e v ps) (k : Nat) (hk : MR g w k) : Foot g v k := by
  refine hk.imp id fun ⟨n, c, e1⟩ => ?_
  rw [h.c3] at e1
  injection e1 with e1
  subst e1
  rfl
theorem Fresh.range {w : World} {B g b e : Nat} {v : Value} {ps : List Pt} (h : Rg w B g b e v ps) : Fresh w (MR g) := fun A hb k hm => by
  rcases (h.below hb).mr_foot k hm with rfl | e1
  · exact h.blk.lt
  · exact (h.own.lt k e1).2
theorem km_range {A C : World} {B g b e e' : Nat} {v v' : Value} {ps ps' : List Pt} (h : Rg A B g b e v ps) (h' : Rg C B g b e' v' ps') (hc : Chs (Foot g v) A C) (hm : Moved A v v') : KM (MR g) A C :=
  ⟨hc.size, fun k o hk _ hn => (hc.block k (Array.getElem?_eq_some_iff.1 hk).1 (fun hf => hn (h.foot_mr k hf))).trans hk, fun k hk hmr => by
    rcases h'.mr_foot k hmr with rfl | e1
    · exact .inl rfl
    · rcases hm k e1 with h1 | h1
      · exact h.foot_mr k (.inr h1)
      · omega⟩
theorem Chs.step {A C w : World} {g : Nat} {v v' : Value} (h : Chs (Foot g v) w A) (hm : Moved w v v') (k : Chs (Foot g v') A C) : Chs (Foot g v) w C :=
  ⟨k.os.trans h.os, k.tape.trans h.tape, k.output.trans h.output, Nat.le_trans h.size k.size, fun i hi hn => (k.block i (Nat.lt_of_lt_of_le hi h.size) (fun hf => by
    rcases hf with rfl | e1
    · exact hn (.inl rfl)
    · rcases hm i e1 with h1 | h1
      · exact hn (.inr h1)
      · omega)).trans (h.block i hi hn)⟩
theorem Moved.step {A w : World} {v v' v'' : Value} (h : Moved w v v') (k : Moved A v' v'') (hs : w.heap.size ≤ A.heap.size) : Moved w v v'' := fun i hi => by
  rcases k i hi with h1 | h1
  · exact h i h1
  · exact .inr (Nat.le_trans hs h1)
theorem Moved.refl (w : World) (v : Value) : Moved w v v := fun k hk => .inl hk

end Go.Proofs.YthgfbcndoedacaaDoor
