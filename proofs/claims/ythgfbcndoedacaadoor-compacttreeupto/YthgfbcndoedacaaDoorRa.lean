/-
  slices.Clone of a range's parts; the iterator of a range that is made.
-/
import Derived.Test.YthgfbcndoedacaaDoorRx
import Derived.Test.YthgfbcndoedacaaDoorIs
namespace Go.Proofs.YthgfbcndoedacaaDoor
open Go.RowKit Go.Shelf
set_option linter.unusedVariables false

theorem pown_empty (w : World) : POwn (w.alloc (.cells #[] 75)) w.heap.size (.slice (some ⟨w.heap.size, 0, none⟩) 0 0) [] :=
  ⟨by simp [pcs], .inr ⟨w.heap.size, 0, #[], rfl, Nat.le_refl _, Blk.made w 75 [], Nat.le_refl _, by unfold maxLen; omega, by simp, by simp [pcs]⟩⟩
theorem step_appendPs {dst : Option Tmp} {s x : Operand} {ty : TypeId} {pos : String} {aft : Array Edge} {gd : Option (Nat × Bool)} {ops : Array Oper} {rest : List Oper} {a : Act} {w : World} {Q : Exit → Act → World → Prop}
    {B : Nat} {v : Value} {g c : Nat} {ps : List Pt} {cs : List Value}
    (hw : Region.wanted ⟨dst, .call { callee := .builtin .append, args := #[s, x], argTypes := #[52, 52] }, ty, pos, aft, gd⟩ (yielded ops a.tmps) = true)
    (hs : a.eval s = v) (hx : a.eval x = .slice (some ⟨g, 0, none⟩) ps.length c) (hown : POwn w B v []) (hgl : GoodL ps) (hy : Blk w g 75 cs) (ht : cs.take (ps.length * 34) = pcs ps) (hlen : ps.length ≤ 1048576) (hB : B ≤ w.heap.size)
    (h : ∀ v' w', POwn w' B v' ps → w.grownBy w' v.ownBlock → wpList Tryd.prog ops Q rest (a.put dst v') w') :
    wpList Tryd.prog ops Q (⟨dst, .call { callee := .builtin .append, args := #[s, x], argTypes := #[52, 52] }, ty, pos, aft, gd⟩ :: rest) a w := by
  obtain ⟨i0, hi, hz0, hz1, hz2⟩ := info_parts infoP
  refine BigFrame.wpList_want hw fun K hK => ?_
  refine wp_append_own _ s x 52 rfl B 75 i0 (.agg pz.toArray) 34 48 undPl hi hz0 hz1 hz2 rfl (by decide) v _ _ hs hown ⟨g, 0, none⟩ ps.length c (pcs ps) hx (pcs_length hgl) ?_ ?_ (by unfold maxLen; simp; omega) (by simp; omega) hB ?_
  · intro j u hu
    rw [Addr.add_lit, Nat.zero_add, hy.cell]
    rw [← ht, List.getElem?_take] at hu
    split at hu
    · exact hu
    · cases hu
  · intro u hu
    simp only [pcs, List.mem_flatMap] at hu
    obtain ⟨p, _, hp⟩ := hu
    exact One.pc p u hp
  · intro v' w' h1 h2 _
    refine hK _ _ (h v' w' ?_ h2)
    unfold POwn
    have e0 : ([] : List Pt).length + ps.length = ps.length := by simp
    rw [e0] at h1
    simpa [pcs] using h1

set_option maxRecDepth 100000 in
theorem clone_any (B : Nat) (v : Value) (ps : List Pt) (w : World) (ho : POwn w B v ps) (hgl : GoodL ps) (hl : ps.length ≤ 1000) : Calls Tryd.prog 31 #[v] w fun r w' => ∃ v', r = .returned v' ∧ POwn w' w.heap.size v' ps ∧ Below w.heap.size w w' := by
  rcases ho.lies with ⟨rfl, rfl⟩ | ⟨g, cap, cs, rfl, hB, hb, hc, hm, hcl, ht⟩
  · have heq : ∀ u : World, (binOp BinOp.eql 52 (.slice none 0 0) (.slice none 0 0)).run Tryd.prog u = .ok (.bool true) u := fun u => by kernel_rfl
    go_enter Tryd.func31, Tryd.ntmps31
    go_wp2
    go_ret
    exact ⟨_, rfl, POwn.nil _ _, Below.refl _ _⟩
  · have HB := hide hb
    have HT := hide ht
    have HGL := hide hgl
    clear ho hb ht hgl
    have heq : ∀ u : World, (binOp BinOp.eql 52 (.slice (some ⟨g, 0, none⟩) ps.length cap) (.slice none 0 0)).run Tryd.prog u = .ok (.bool false) u := fun u => by kernel_rfl
    go_enter Tryd.func31, Tryd.ntmps31
    go_wp2_with (refine step_appendPs rfl rfl rfl (pown_empty _) HGL.out (HB.out.below ((Below.refl _ _).alloc (Nat.le_refl _) _) HB.out.lt) HT.out (by omega) (by simp) ?_)
    intro v5 w5 ho5 hg5
    have hb5 : Below w.heap.size w w5 := ((Below.refl _ w).alloc (Nat.le_refl _) _).trans (Below.of_grown hg5 (by simp) (fun k hk => by
      have hk' : some w.heap.size = some k := hk
      injection hk' with hk'
      omega))
    go_wp2
    go_ret
    exact ⟨_, rfl, ho5, hb5⟩

/-- What a loop's body may turn: blocks of its own (M), and new ones. -/
structure KM (M : World → Nat → Prop) (A B : World) : Prop where
  size : A.heap.size ≤ B.heap.size
  keep : ∀ k o, A.heap[k]? = some o → o.isCells = true → ¬ M A k → B.heap[k]? = some o
  mine : ∀ k, k < A.heap.size → M B k → M A k
theorem KM.trans {M : World → Nat → Prop} {A B C : World} (h : KM M A B) (k : KM M B C) : KM M A C :=
  ⟨Nat.le_trans h.size k.size, fun i o hi ho hm => k.keep i o (h.keep i o hi ho hm) ho (fun hb => hm (h.mine i (Array.getElem?_eq_some_iff.1 hi).1 hb)), fun i hi hm => h.mine i hi (k.mine i (Nat.lt_of_lt_of_le hi h.size) hm)⟩
/-- Blocks that are told by what lay there at the loop's beginning. -/
structure Mine (n₀ : Nat) (M : World → Nat → Prop) : Prop where
  lt : ∀ A k, M A k → k < A.heap.size
  below : ∀ A B, n₀ ≤ A.heap.size → Below A.heap.size A B → ∀ k, M B k → M A k
  put : ∀ A l o, n₀ ≤ l → l < A.heap.size → ∀ k, M (A.putObj l o) k → M A k
theorem KM.book {n₀ : Nat} {M : World → Nat → Prop} (hM : Mine n₀ M) {w : World} (hn : n₀ ≤ w.heap.size) (W : World) (l : Nat) (o o' : Obj) (hl : w.heap.size ≤ l) (h : W.heap[l]? = some o) (hc : o.isCells = false) (_ : o.isWalk = false) : KM M W (W.putObj l o') :=
  ⟨(grownBy_putObj' W l o').size, fun k q hk hq _ => by
    have hne : k ≠ l := fun e => by
      subst e
      rw [h] at hk
      injection hk with hk
      subst hk
      rw [hc] at hq
      cases hq
    rw [World.putObj_heap_other hne]
    exact hk, fun k _ hm => hM.put W l o' (Nat.le_trans hn hl) (Array.getElem?_eq_some_iff.1 h).1 k hm⟩
/-- One block. -/
theorem Mine.one {n₀ g : Nat} (h : g < n₀) : Mine n₀ (fun A k => k = g ∧ k < A.heap.size) :=
  ⟨fun A k hm => hm.2, fun A B hn _ k hm => ⟨hm.1, by have := hm.1; omega⟩, fun A l o hl hlt k hm => ⟨hm.1, by have := hm.1; omega⟩⟩
theorem km_below {n₀ : Nat} {M : World → Nat → Prop} (hM : Mine n₀ M) {A B : World} (hn : n₀ ≤ A.heap.size) (h : Below A.heap.size A B) : KM M A B :=
  ⟨h.size, fun k o hk _ _ => (h.block k (Array.getElem?_eq_some_iff.1 hk).1).trans hk, fun k _ hm => hM.below A B hn h k hm⟩
theorem km_one {g : Nat} {A B : World} (h : But g A B) (hlt : g < A.heap.size) : KM (fun A k => k = g ∧ k < A.heap.size) A B :=
  ⟨Nat.le_of_eq h.size.symm, fun k o hk _ hm => (h.block k (fun e => hm ⟨e, by omega⟩)).trans hk, fun k hk hm => ⟨hm.1, hk⟩⟩
theorem keepsO_below {A B : World} (h : Below A.heap.size A B) : KeepsOthers A B := ⟨h.size, fun k o hk _ => (h.block k (Array.getElem?_eq_some_iff.1 hk).1).trans hk⟩
theorem keepsO_but {g : Nat} {t : TypeId} {cs : List Value} {A B : World} (h : But g A B) (hg : Blk A g t cs) : KeepsOthers A B := ⟨Nat.le_of_eq h.size.symm, fun k o hk hc => (h.block k (fun e => by
  subst e
  rw [hg] at hk
  injection hk with hk
  subst hk
  cases hc)).trans hk⟩
theorem grown_none {A B : World} (h : Below A.heap.size A B) : A.grownBy B none := ⟨h.os, h.tape, h.output, h.size, fun k hk _ => h.block k hk⟩

/-- The i-th part, or any that is good. -/
def pG (ps : List Pt) (i : Nat) : Pt := if i < ps.length then pAt ps i else ((49, 0), zer 32)
theorem pG_good {ps : List Pt} (h : GoodL ps) (i : Nat) : Good (pG ps i) := by
  unfold pG
  split
  · rename_i hi; exact pAt_good h hi
  · exact ⟨zer_length 32, zer_isB 32, by simp, by simp⟩
theorem meas_lt {k n : Nat} (h : k < n) : n - (intOf (.int .i64 ((k : Int) + 1))).toNat < n - (intOf (.int .i64 (k : Int))).toNat := by
  simp only [intOf]
  omega
theorem range_pre {k n : Nat} (h : k ≤ n) : List.range k <+: List.range n := by
  obtain ⟨d, rfl⟩ : ∃ d, n = k + d := ⟨n - k, by omega⟩
  rw [List.range_add]
  exact List.prefix_append _ _
/-- The clone that the iterator goes through. -/
def CL (M : World → Nat → Prop) (a : Option Addr) (ps : List Pt) (W : World) : Prop := ps = [] ∨ ∃ c cs, a = some ⟨c, 0, none⟩ ∧ Blk W c 75 cs ∧ cs.take (ps.length * 34) = pcs ps ∧ ¬ M W c

set_option maxRecDepth 100000 in
set_option maxHeartbeats 1000000 in
theorem all_stops (B g b e : Nat) (v : Value) (ps : List Pt) (Bs n₀ : Nat) (w : World) (hB : Bs < n₀) (hn0 : n₀ ≤ w.heap.size) (hBs : w.cell? ⟨Bs, 0, none⟩ = some (.pointer (some ⟨g, 0, none⟩))) (hr : Rg w B g b e v ps) (M : World → Nat → Prop) (hM : Mine n₀ M) :
    SeqStopsK Fence.wide 2 Tryd.prog 41 #[.pointer (some ⟨Bs, 0, none⟩)] (fun i : Nat => #[Value.agg (nC (pG ps i).1).toArray, Value.agg (u8s (pG ps i).2).toArray]) (KM M) (fun xs => xs = List.range ps.length) (fun pre => pre <+: List.range ps.length) ps.length w := by
  intro l J Jx W hW hJ hJx hY h0
  have hc : W.cell? ⟨Bs, 0, none⟩ = some (.pointer (some ⟨g, 0, none⟩)) := cell_below hBs hW
  have HR := hide (hr.below hW)
  have c0 : W.cell? ⟨g, 0, none⟩ = some (.bool true) := by rw [HR.out.blk.cell]; rfl
  have hwW := hW.size
  obtain ⟨a0, n0, q0, rfl⟩ : ∃ a n c, v = Value.slice a n c := by rcases hr.own.lies with ⟨rfl, _⟩ | ⟨_, _, _, rfl, _⟩ <;> exact ⟨_, _, _, rfl⟩
  have c3 : W.cell? ⟨g, 3, none⟩ = some (.slice a0 n0 q0) := by rw [HR.out.blk.cell]; rfl
  clear hr hBs hW
  refine callsIn_of_wp Tryd.func41 rfl trivial ?_ rfl
  simp only [Tryd.ntmps41, List.size_toArray, List.length_cons, List.length_nil, Nat.reduceAdd, Nat.reduceSub, Array.replicate_succ, Array.replicate_zero, List.push_toArray, List.append_toArray, List.nil_append, List.cons_append]
  gi_wp2_with fail
  refine ⟨trivial, (callsIn_wide.2 (made_is _ _ c0)).mono ?_⟩
  rintro r w' ⟨rfl, rfl⟩
  gi_wp2_with fail
  refine ⟨trivial, (callsIn_wide.2 (clone_any B _ ps _ HR.out.own HR.out.good (by have := HR.out.count; omega))).mono ?_⟩
  rintro r W1 ⟨v1, rfl, ho1, hb1⟩
  obtain ⟨a1, q1, rfl, hcl⟩ : ∃ a q, v1 = Value.slice a ps.length q ∧ CL M a ps W1 := by
    rcases ho1.lies with ⟨rfl, rfl⟩ | ⟨c, q, cs, rfl, hcB, hb, _, _, _, ht⟩
    · exact ⟨none, 0, rfl, .inl rfl⟩
    · exact ⟨_, q, rfl, .inr ⟨c, cs, rfl, hb, ht, fun hm => by
        have := hM.lt _ _ (hM.below W W1 (Nat.le_trans hn0 hwW) hb1 c hm)
        omega⟩⟩
  have HJ0 := hide (hJ [] W W1 none h0 (grown_none hb1) (fun r e => by cases e))
  have HCL := hide hcl
  have hnW1 : n₀ ≤ W1.heap.size := Nat.le_trans (Nat.le_trans hn0 hwW) hb1.size
  have HN := hide HR.out.count
  have HGL := hide HR.out.good
  obtain ⟨dP, huP, hdP⟩ := wP.und
  clear ho1 hb1 hcl c0 c3 hc HR h0
  gi_wp2_with fail
  gi_loopw [14] (fun i wr => ∃ k : Nat, k ≤ ps.length ∧ i = .int .i64 (k : Int) ∧ Hid (J (List.range k) wr) ∧ Hid (CL M a1 ps wr) ∧ n₀ ≤ wr.heap.size) (fun i _ => ps.length - (intOf i).toNat)
  case atStart => exact ⟨0, Nat.zero_le _, rfl, HJ0, HCL, hnW1⟩
  case round =>
    obtain ⟨k, hk, rfl, HJ, HC, hnr⟩ := hrel
    clear HJ0 HCL hnW1
    by_cases hlt : k < ps.length
    · have hlt' : (k : Int) < (ps.length : Int) := by omega
      obtain ⟨c, cs, rfl, hcb, hct, hcm⟩ : ∃ c cs, a1 = some ⟨c, 0, none⟩ ∧ Blk wr c 75 cs ∧ cs.take (ps.length * 34) = pcs ps ∧ ¬ M wr c := by
        rcases HC.out with e0 | h
        · subst e0; simp at hlt
        · exact h
      have HCB := hide hcb
      have HCT := hide hct
      have HCM := hide hcm
      have HPG := hide (pAt_good HGL.out hlt)
      have HPL := hide (pc_length HPG.out)
      have hix := p_at c ps.length q1 k (k : Int) rfl hlt
      have HRA : Hid (wr.rangeAt c (k * 34) (pc (pAt ps k))) := hide (hcb.range _ _ (by
        have hpa := pcs_at HGL.out hlt
        rw [← hct, List.drop_take, List.take_take] at hpa
        rw [HPL.out, ← hpa]
        congr 1
        have : (k + 1) * 34 ≤ ps.length * 34 := Nat.mul_le_mul_right 34 hlt
        omega))
      have EG : Hid (pG ps k = pAt ps k) := hide (by unfold pG; rw [if_pos hlt])
      clear hcb hct hcm HC
      gi_wp2_with (first | (refine istep_loadR .wide wP rfl rfl _ HRA.out HPL.out ?_) | (refine istep_alloc .wide zP rfl ?_))
      intro W2 g4 hg4 hle4 hb4
      gi_wp2_with (refine istep_storeA .wide wP rfl rfl rfl hg4 HPL.out (One.pc _) rfl ?_)
      intro W3 hg43 hbut
      have hb3 : Below wr.heap.size wr W3 := hb4.trans (hbut.below hle4)
      have HB3 := hide hb3
      have G4 := hide hg43
      have HJ3 := hide (hJ _ wr W3 none HJ.out (grown_none hb3) (fun r e => by cases e))
      clear hg4 hb4 hbut hg43 hb3
      have HDLk := hide (show (u8s (pAt ps k).2).length = 32 by rw [u8s_length, HPG.out.len])
      obtain ⟨fn, tmps, assign, body, hy, hR⟩ := hY (List.range k) k W3 HJ3.out (by rw [List.length_range]; exact hlt)
      simp only [EG.out] at hy
      have hwm : wrap64 ((k : Int) + 1) = (k : Int) + 1 := by unfold wrap64; have := HN.out; omega
      have HC3 : Hid (Blk W3 c 75 cs ∧ ¬ M W3 c) := hide ⟨HCB.out.below HB3.out HCB.out.lt, fun hm => HCM.out (hM.below wr W3 hnr HB3.out c hm)⟩
      gi_wp2_with (first | (refine istep_load .wide wNd rfl rfl G4.out (nC (pAt ps k).1) rfl rfl ?_) | (refine istep_load .wide wD rfl rfl G4.out (u8s (pAt ps k).2) HDLk.out (by exact List.take_of_length_le (by rw [show (pc (pAt ps k)).drop 2 = u8s (pAt ps k).2 from rfl, HDLk.out]; omega)) ?_))
      refine hR.mono ?_
      rintro r W4 (⟨rfl, hJ4, hk4⟩ | ⟨rfl, hJx4⟩)
      · have HJ4 := hide (show J (List.range (k + 1)) W4 by rw [List.range_succ]; exact hJ4)
        have HC4 : Hid (CL M (some ⟨c, 0, none⟩) ps W4) := hide (.inr ⟨c, cs, rfl, hk4.keep c _ HC3.out.1 rfl HC3.out.2, HCT.out, fun hm => HC3.out.2 (hk4.mine c HC3.out.1.lt hm)⟩)
        have hn4 : n₀ ≤ W4.heap.size := Nat.le_trans hnr (Nat.le_trans HB3.out.size hk4.size)
        clear hJ4 hk4
        gi_wp2
        go_roundw
        case rel => exact ⟨k + 1, by omega, by first | rfl | go_num, HJ4, HC4, hn4⟩
        case measure => rw [hwm]; exact meas_lt hlt
      · have HJx4 := hide hJx4
        clear hJx4
        gi_wp2
        refine bodyPost_ret (results_none rfl _ _ _) rfl ?_
        exact ⟨⟨_, rfl⟩, .inr ⟨_, by rw [← List.range_succ]; exact range_pre (by omega), HJx4.out⟩⟩
    · obtain rfl : k = ps.length := by omega
      have hlt' : ¬ ((ps.length : Int) < (ps.length : Int)) := by omega
      gi_wp2
      go_end0
      exact ⟨⟨_, rfl⟩, .inl HJ.out⟩

end Go.Proofs.YthgfbcndoedacaaDoor
