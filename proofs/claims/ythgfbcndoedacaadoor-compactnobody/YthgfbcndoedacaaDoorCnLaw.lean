/-
  The walk of CompactNobody.
-/
import Derived.Test.YthgfbcndoedacaaDoorCn
import Derived.Test.YthgfbcndoedacaaDoorCon
namespace Go.Proofs.YthgfbcndoedacaaDoor
open Go.RowKit Go.Shelf
set_option linter.unusedVariables false

theorem Blk.kept {A B : World} {g : Nat} {t : TypeId} {cs : List Value} {row : Option Nat} (h : Blk A g t cs) (hg : A.grownBy B row) (hr : ∀ r, row = some r → ∃ o : Obj, A.heap[r]? = some o ∧ o.isCells = false) : Blk B g t cs := by
  have e : B.heap[g]? = A.heap[g]? := hg.block g h.lt (fun e => by
    obtain ⟨o, ho, hc⟩ := hr g e.symm
    rw [h] at ho
    injection ho with ho
    subst ho
    cases hc)
  unfold Blk
  rw [e]
  exact h

/-- What stands through a round of the law's loop. -/
structure NS (w W : World) (g3 go gr b : Nat) (ds : List Int) : Prop where
  c3 : Blk W g3 34 (u8s ds)
  co : Blk W go 54 (rgC 0 0 (.slice none 0 0))
  cr : Blk W gr 54 [.bool false, .int .i64 0, .int .i64 0, .slice none 0 0]
  cb : Blk W b 23 [.pointer none, .pointer (some ⟨gr, 0, none⟩)]
  bel : Below w.heap.size w W
theorem NS.below {w W W' : World} {g3 go gr b : Nat} {ds : List Int} (h : NS w W g3 go gr b ds) (hb : Below W.heap.size W W') : NS w W' g3 go gr b ds :=
  ⟨h.c3.below hb h.c3.lt, h.co.below hb h.co.lt, h.cr.below hb h.cr.lt, h.cb.below hb h.cb.lt, h.bel.trans (hb.mono h.bel.size)⟩

theorem NS.kept {w A B : World} {g3 go gr b : Nat} {ds : List Int} {row : Option Nat} (h : NS w A g3 go gr b ds) (hg : A.grownBy B row) (hr : ∀ r, row = some r → w.heap.size ≤ r ∧ ∃ o : Obj, A.heap[r]? = some o ∧ o.isCells = false) : NS w B g3 go gr b ds :=
  ⟨h.c3.kept hg (fun r e => (hr r e).2), h.co.kept hg (fun r e => (hr r e).2), h.cr.kept hg (fun r e => (hr r e).2), h.cb.kept hg (fun r e => (hr r e).2), h.bel.grown hg h.bel.size (fun r e => (hr r e).1)⟩
theorem mark_kept {A B : World} {row : Option Nat} {D n : Nat} (hx : A.heap[D]? = some (.deferred (some []))) (hg : A.grownBy B row) (hr : ∀ r, row = some r → n ≤ r ∧ ∃ o : Obj, A.heap[r]? = some o ∧ o.isCells = false) (hD : D < n) : B.heap[D]? = some (.deferred (some [])) := by
  rw [hg.block D (Array.getElem?_eq_some_iff.1 hx).1 (fun e => by have := (hr D e.symm).1; omega)]
  exact hx

theorem mark_below {W W' : World} {D : Nat} (h : W.heap[D]? = some (.deferred (some []))) (hb : Below W.heap.size W W') : W'.heap[D]? = some (.deferred (some [])) :=
  (hb.block D (Array.getElem?_eq_some_iff.1 h).1).trans h
/-- A world in which the round's own cell stands beside, and the marks of the loops that are done. -/
structure NT (w W : World) (g3 go gr b : Nat) (ds : List Int) (c9 : Nat) (M : List Nat) : Prop where
  ns : NS w W g3 go gr b ds
  c9 : Blk W c9 3 [.int .i64 0]
  marks : ∀ D ∈ M, W.heap[D]? = some (.deferred (some []))
theorem NT.below {w W W' : World} {g3 go gr b c9 : Nat} {ds : List Int} {M : List Nat} (h : NT w W g3 go gr b ds c9 M) (hb : Below W.heap.size W W') : NT w W' g3 go gr b ds c9 M := ⟨h.ns.below hb, h.c9.below hb h.c9.lt, fun D hD => mark_below (h.marks D hD) hb⟩
theorem NT.mk0 {w W : World} {g3 go gr b : Nat} {ds : List Int} {M : List Nat} (h : NS w W g3 go gr b ds) (hM : ∀ D ∈ M, W.heap[D]? = some (.deferred (some []))) : NT w (W.alloc (.cells #[.int .i64 0] 3)) g3 go gr b ds W.heap.size M :=
  ⟨h.below ((Below.refl _ _).alloc (Nat.le_refl _) _), Blk.made W 3 [.int .i64 0], fun D hD => mark_below (hM D hD) ((Below.refl _ _).alloc (Nat.le_refl _) _)⟩
theorem NS.bare {w W : World} {g3 go gr b : Nat} {ds : List Int} (h : NS w W g3 go gr b ds) : RNob W (.pointer (some ⟨gr, 0, none⟩)) := .bare gr (by rw [h.cr.cell]; rfl)
/-- How many parts a range has that is made. -/
theorem rlen_any (g : Nat) (b e : Int) (a : Option Addr) (n c : Nat) (w : World) (h : Blk w g 54 (rgC b e (.slice a n c))) : Calls Tryd.prog 24 #[.pointer (some ⟨g, 0, none⟩)] w fun r w' => r = .returned (.int .i64 n) ∧ w = w' := by
  have h3 : w.cell? ⟨g, 3, none⟩ = some (.slice a n c) := by rw [h.cell]; rfl
  have h0 : w.cell? ⟨g, 0, none⟩ = some (.bool true) := by rw [h.cell]; rfl
  go_enter Tryd.func24, Tryd.ntmps24
  go_wp2_with (go_at_call 29; refine (made_is _ _ h0).mono ?_; rintro e w' ⟨rfl, rfl⟩)
  go_ret
  exact ⟨rfl, rfl⟩

set_option maxRecDepth 100000 in
set_option maxHeartbeats 2000000 in
theorem cnob_walk (level : Int) (ds : List Int) (w : World) (hl : ds.length = 32) :
    Calls Tryd.prog 5 #[.int .i64 level, .agg (u8s ds).toArray] w fun e w' => e = .returned (.bool true) ∧ Below w.heap.size w w' := by
  have HL := hide (show (u8s ds).length = 32 by rw [u8s_length, hl])
  have HL0 := hide hl
  clear hl
  refine (callsIn_wide (n := 3)).1 ?_
  refine callsIn_of_wp_marks Tryd.func5 rfl trivial ?_ rfl
  refine wpIn_wide.2 ?_
  simp only [Tryd.ntmps5, List.size_toArray, List.length_cons, List.length_nil, Nat.reduceAdd, Nat.reduceSub, Array.replicate_succ, Array.replicate_zero, List.push_toArray, List.append_toArray, List.nil_append, List.cons_append]
  go_wp2_with (refine step_box rfl rfl ?_)
  intro w1 g3 hg3 hle3 hb1
  have G3 := hide hg3
  clear hg3
  go_wp2_with fail
  refine (new_ok 0 _ (by omega) (by omega)).mono ?_
  rintro r w2 ⟨go, rfl, hgo, hlego, hb2⟩
  have GO := hide hgo
  clear hgo
  go_wp2_with (first | (refine step_buildR0 rfl ?_) | (refine step_box (cs := [.bool false, .int .i64 0, .int .i64 0, .slice none 0 0]) rfl rfl ?_; intro w3 gr hgr hler hb3; have GR := hide hgr; clear hgr))
  have NS0 : NS w (w3.alloc (Obj.cells #[Value.pointer none, Value.pointer (some { block := gr, off := 0 })] 23)) g3 go gr w3.heap.size ds := by
    have h0 : Below w3.heap.size w3 (w3.alloc (Obj.cells #[Value.pointer none, Value.pointer (some { block := gr, off := 0 })] 23)) := (Below.refl _ _).alloc (Nat.le_refl _) _
    have h23 := hb2.trans (hb3.mono hb2.size)
    have h24 := h23.trans (h0.mono h23.size)
    exact ⟨G3.out.below h24 G3.out.lt, (GO.out.below hb3 GO.out.lt).below h0 (GO.out.below hb3 GO.out.lt).lt, GR.out.below h0 GR.out.lt, Blk.made w3 _ _, hb1.trans (h24.mono hb1.size)⟩
  revert NS0
  generalize w3.alloc (Obj.cells #[Value.pointer none, Value.pointer (some { block := gr, off := 0 })] 23) = w4
  generalize w3.heap.size = b
  intro NS0
  have N0 := hide NS0
  have hs0 : w4.cell? ⟨b, 0, none⟩ = some (.pointer none) := by rw [NS0.cb.cell]; rfl
  clear NS0 hb1 hb2 hb3 hle3 hlego hler G3 GO GR
  refine wp_loop_rounds 3 ?_
  rw [rounds_succ]
  go_wp2_with fail
  have T0 := NT.mk0 (M := []) N0.out (fun _ h => by cases h)
  have hbT : Below w4.heap.size w4 (w4.alloc (.cells #[.int .i64 0] 3)) := (Below.refl _ _).alloc (Nat.le_refl _) _
  revert T0 hbT
  generalize w4.alloc (.cells #[.int .i64 0] 3) = Wa1
  generalize w4.heap.size = c91 at *
  intro T0 hbT
  refine (all_any none _).mono ?_
  rintro r W5 ⟨rfl, rfl⟩
  have hbA : Below Wa1.heap.size Wa1 (Wa1.alloc (.cells #[.pointer none] 23)) := (Below.refl _ _).alloc (Nat.le_refl _) _
  have T1 := T0.below hbA
  revert T1 hbA
  generalize Wa1.alloc (.cells #[.pointer none] 23) = Wb1
  generalize Wa1.heap.size = bx01
  intro hbA T1
  have heq : ∀ v : World, (binOp BinOp.eql 57 (.func (.func 41) #[] #[.pointer (some ⟨bx01, 0, none⟩)]) .nilFunc).run Tryd.prog v = .ok (.bool false) v := fun v => by kernel_rfl
  go_wp2_with fail
  refine (all_any none _).mono ?_
  rintro r W5 ⟨rfl, rfl⟩
  have hbB : Below Wb1.heap.size Wb1 (Wb1.alloc (.cells #[.pointer none] 23)) := (Below.refl _ _).alloc (Nat.le_refl _) _
  have T2 := T1.below hbB
  have BX : Blk (Wb1.alloc (.cells #[.pointer none] 23)) Wb1.heap.size 23 [.pointer none] := Blk.made _ _ _
  revert T2 hbB BX
  generalize Wb1.alloc (.cells #[.pointer none] 23) = Wc1
  generalize Wb1.heap.size = bx1
  intro hbB T2 BX
  have HT := hide T2
  have hlt1 : ∀ D ∈ [], D < Wc1.heap.size := fun D hD => (Array.getElem?_eq_some_iff.1 (T2.marks D hD)).1
  have hws1 := T2.ns.bel.size
  clear heq T0 T1 T2 hbT hbA hbB
  go_wp2_with fail
  refine (wpIn_wide (n := 3)).1 ?_
  refine wpIn_rangeFunc_ownF rfl (by decide) (gf := 41) (lb := #[.pointer (some ⟨bx1, 0, none⟩)]) rfl trivial (enters_of Tryd.func41 (by kernel_rfl) rfl)
    (all_nob_stops bx1 Wc1.heap.size (.pointer none) Wc1 BX.lt (Nat.le_refl _) (by rw [BX.cell]; rfl) (.nil)) belowK_t (belowK_b (Nat.le_refl _)) (Below.refl _ _) (fun _ => rfl)
    (fun pre W' => pre = [] ∧ NT w W' g3 go gr b ds c91 []) (fun _ _ _ => False)
    (fun _ A B row h hg hr => ⟨h.1, ⟨h.2.ns.kept hg (fun r e => ⟨by have := (hr r e).1; have := HT.out.ns.bel.size; omega, (hr r e).2⟩), h.2.c9.kept hg (fun r e => (hr r e).2), fun D hD => mark_kept (h.2.marks D hD) hg hr (Array.getElem?_eq_some_iff.1 (HT.out.marks D hD)).1⟩⟩)
    (fun c _ A B row h hg hr => h)
    ⟨rfl, HT.out⟩ ?act1 ?assign1 ?body1 ?done1 ?stop1
  case assign1 =>
    intro l x W K hK
    have hsem := Oper.semAt_some
    gi_wp2
    exact hK
  case body1 =>
    rintro l pre x W hI hlt
    exact absurd hlt (by omega)
  case stop1 =>
    rintro D c pre W hD hSp h hK
    exact h.elim
  rintro D1 ys W1 hD1 rfl ⟨_, hT⟩ hK1
  have HT := hide hT
  have HK := hide hK1
  clear hT hK1
  go_wp2_with fail
  refine (root_nob _ _ (.nil)).mono ?_
  rintro r wA ⟨rfl, hbA⟩
  have HA := hide (HT.out.below hbA)
  have KA := hide (mark_below HK.out hbA)
  clear HT HK hbA
  go_wp2_with (refine step_alloc zD rfl ?_)
  intro wB g10 hg10 hle10 hbB
  go_wp2_with (refine step_storeA wD rfl rfl rfl hg10 rfl (One.u8 _) rfl ?_)
  intro wC hg10C hbut
  have hbC := hbB.trans (hbut.below hle10)
  have HT := hide (HA.out.below hbC)
  have HK := hide (mark_below KA.out hbC)
  have G10 := hide hg10C
  clear hbB hbut hbC HA KA hg10 hg10C
  go_wp2_with (refine step_loadA wD rfl rfl HT.out.ns.c3 HL.out ?_)
  refine (app_nob _ ds _ HL0.out (.nil)).mono ?_
  rintro r wd ⟨rfl, hbD⟩
  have HD := hide (HT.out.below hbD)
  have KD := hide (mark_below HK.out hbD)
  have G10D := hide (G10.out.below hbD G10.out.lt)
  clear hbD HT HK G10
  go_wp2_with (first | (refine step_loadA wD rfl rfl HD.out.ns.c3 HL.out ?_))
  refine (appN_nob _ _ ds _ (.nil)).mono ?_
  rintro r wE ⟨rfl, hbE⟩
  have HT := hide (HD.out.below hbE)
  have HK := hide (mark_below KD.out hbE)
  have G10 := hide (G10D.out.below hbE G10D.out.lt)
  clear hbE HD KD G10D
  go_wp2_with fail
  refine (merge_nob _ _ _ (.nil)).mono ?_
  rintro r wF ⟨rfl, hbF⟩
  have HD := hide (HT.out.below hbF)
  have KD := hide (mark_below HK.out hbF)
  have G10D := hide (G10.out.below hbF G10.out.lt)
  clear hbF HT HK G10
  go_wp2_with fail
  refine (merge_nob2 _ _ _ (by rw [HD.out.ns.co.cell]; rfl) (.nil)).mono ?_
  rintro r wG ⟨rfl, hbG⟩
  have HT := hide (HD.out.below hbG)
  have HK := hide (mark_below KD.out hbG)
  have G10 := hide (G10D.out.below hbG G10D.out.lt)
  clear hbG HD KD G10D
  go_wp2_with fail
  refine (span_nob _ _ (.nil)).mono ?_
  rintro r wH ⟨rfl, hbH⟩
  have HD := hide (HT.out.below hbH)
  have KD := hide (mark_below HK.out hbH)
  have G10D := hide (G10.out.below hbH G10.out.lt)
  clear hbH HT HK G10
  have hc9 : wH.cell? ⟨c91, 0, none⟩ = some (.int .i64 0) := by rw [HD.out.c9.cell]; rfl
  go_wp2_with (first | (go_at_call 24; refine (len_nob _ _ (.nil)).mono ?_; rintro r w' ⟨rfl, rfl⟩) | (refine step_loadA wD rfl rfl G10D.out rfl ?_) | (refine step_buildD rfl ?_) | (refine step_neA aD rfl rfl rfl rfl rfl ?_) | (go_at_call 12; refine (clone_nob _ _ (.nil)).mono ?_; rintro r w' ⟨rfl, rfl⟩) | (go_at_call 25; refine (bytes_nob _ _ (.nil)).mono ?_; rintro r w' ⟨rfl, rfl⟩))
  clear N0 hs0
  have N0 := hide HD.out.ns
  have hM : ∀ D ∈ [D1], wH.heap[D]? = some (.deferred (some [])) := fun D hD => by
    obtain rfl : D = D1 := by simpa using hD
    exact KD.out
  have hs1 : wH.cell? ⟨b, 1, none⟩ = some (.pointer (some ⟨gr, 0, none⟩)) := by rw [HD.out.ns.cb.cell]; rfl
  clear HD KD G10D hc9 BX
  rw [rounds_succ]
  go_wp2_with fail
  have T0 := NT.mk0 (M := [D1]) N0.out hM
  have hbT : Below wH.heap.size wH (wH.alloc (.cells #[.int .i64 0] 3)) := (Below.refl _ _).alloc (Nat.le_refl _) _
  revert T0 hbT
  generalize wH.alloc (.cells #[.int .i64 0] 3) = Wa2
  generalize wH.heap.size = c92 at *
  intro T0 hbT
  refine (all_any (some ⟨gr, 0, none⟩) _).mono ?_
  rintro r W5 ⟨rfl, rfl⟩
  have hbA : Below Wa2.heap.size Wa2 (Wa2.alloc (.cells #[.pointer (some ⟨gr, 0, none⟩)] 23)) := (Below.refl _ _).alloc (Nat.le_refl _) _
  have T1 := T0.below hbA
  revert T1 hbA
  generalize Wa2.alloc (.cells #[.pointer (some ⟨gr, 0, none⟩)] 23) = Wb2
  generalize Wa2.heap.size = bx02
  intro hbA T1
  have heq : ∀ v : World, (binOp BinOp.eql 57 (.func (.func 41) #[] #[.pointer (some ⟨bx02, 0, none⟩)]) .nilFunc).run Tryd.prog v = .ok (.bool false) v := fun v => by kernel_rfl
  go_wp2_with fail
  refine (all_any (some ⟨gr, 0, none⟩) _).mono ?_
  rintro r W5 ⟨rfl, rfl⟩
  have hbB : Below Wb2.heap.size Wb2 (Wb2.alloc (.cells #[.pointer (some ⟨gr, 0, none⟩)] 23)) := (Below.refl _ _).alloc (Nat.le_refl _) _
  have T2 := T1.below hbB
  have BX : Blk (Wb2.alloc (.cells #[.pointer (some ⟨gr, 0, none⟩)] 23)) Wb2.heap.size 23 [.pointer (some ⟨gr, 0, none⟩)] := Blk.made _ _ _
  revert T2 hbB BX
  generalize Wb2.alloc (.cells #[.pointer (some ⟨gr, 0, none⟩)] 23) = Wc2
  generalize Wb2.heap.size = bx2
  intro hbB T2 BX
  have HT := hide T2
  have hlt2 : ∀ D ∈ [D1], D < Wc2.heap.size := fun D hD => (Array.getElem?_eq_some_iff.1 (T2.marks D hD)).1
  have hws2 := T2.ns.bel.size
  clear heq T0 T1 T2 hbT hbA hbB
  go_wp2_with fail
  refine (wpIn_wide (n := 3)).1 ?_
  refine wpIn_rangeFunc_ownF rfl (by decide) (gf := 41) (lb := #[.pointer (some ⟨bx2, 0, none⟩)]) rfl trivial (enters_of Tryd.func41 (by kernel_rfl) rfl)
    (all_nob_stops bx2 Wc2.heap.size (.pointer (some ⟨gr, 0, none⟩)) Wc2 BX.lt (Nat.le_refl _) (by rw [BX.cell]; rfl) (HT.out.ns.bare)) belowK_t (belowK_b (Nat.le_refl _)) (Below.refl _ _) (fun _ => rfl)
    (fun pre W' => pre = [] ∧ NT w W' g3 go gr b ds c92 [D1]) (fun _ _ _ => False)
    (fun _ A B row h hg hr => ⟨h.1, ⟨h.2.ns.kept hg (fun r e => ⟨by have := (hr r e).1; have := HT.out.ns.bel.size; omega, (hr r e).2⟩), h.2.c9.kept hg (fun r e => (hr r e).2), fun D hD => mark_kept (h.2.marks D hD) hg hr (Array.getElem?_eq_some_iff.1 (HT.out.marks D hD)).1⟩⟩)
    (fun c _ A B row h hg hr => h)
    ⟨rfl, HT.out⟩ ?act2 ?assign2 ?body2 ?done2 ?stop2
  case assign2 =>
    intro l x W K hK
    have hsem := Oper.semAt_some
    gi_wp2
    exact hK
  case body2 =>
    rintro l pre x W hI hlt
    exact absurd hlt (by omega)
  case stop2 =>
    rintro D c pre W hD hSp h hK
    exact h.elim
  rintro D2 ys W2 hD2 rfl ⟨_, hT⟩ hK2
  have HT := hide hT
  have HK := hide hK2
  clear hT hK2
  go_wp2_with fail
  refine (root_nob _ _ (HT.out.ns.bare)).mono ?_
  rintro r wA ⟨rfl, hbA⟩
  have HA := hide (HT.out.below hbA)
  have KA := hide (mark_below HK.out hbA)
  clear HT HK hbA
  go_wp2_with (refine step_alloc zD rfl ?_)
  intro wB g10 hg10 hle10 hbB
  go_wp2_with (refine step_storeA wD rfl rfl rfl hg10 rfl (One.u8 _) rfl ?_)
  intro wC hg10C hbut
  have hbC := hbB.trans (hbut.below hle10)
  have HT := hide (HA.out.below hbC)
  have HK := hide (mark_below KA.out hbC)
  have G10 := hide hg10C
  clear hbB hbut hbC HA KA hg10 hg10C
  go_wp2_with (refine step_loadA wD rfl rfl HT.out.ns.c3 HL.out ?_)
  refine (app_nob _ ds _ HL0.out (HT.out.ns.bare)).mono ?_
  rintro r wd ⟨rfl, hbD⟩
  have HD := hide (HT.out.below hbD)
  have KD := hide (mark_below HK.out hbD)
  have G10D := hide (G10.out.below hbD G10.out.lt)
  clear hbD HT HK G10
  go_wp2_with (first | (refine step_loadA wD rfl rfl HD.out.ns.c3 HL.out ?_))
  refine (appN_nob _ _ ds _ (HD.out.ns.bare)).mono ?_
  rintro r wE ⟨rfl, hbE⟩
  have HT := hide (HD.out.below hbE)
  have HK := hide (mark_below KD.out hbE)
  have G10 := hide (G10D.out.below hbE G10D.out.lt)
  clear hbE HD KD G10D
  go_wp2_with fail
  refine (merge_nob _ _ _ (HT.out.ns.bare)).mono ?_
  rintro r wF ⟨rfl, hbF⟩
  have HD := hide (HT.out.below hbF)
  have KD := hide (mark_below HK.out hbF)
  have G10D := hide (G10.out.below hbF G10.out.lt)
  clear hbF HT HK G10
  go_wp2_with fail
  refine (merge_nob2 _ _ _ (by rw [HD.out.ns.co.cell]; rfl) (HD.out.ns.bare)).mono ?_
  rintro r wG ⟨rfl, hbG⟩
  have HT := hide (HD.out.below hbG)
  have HK := hide (mark_below KD.out hbG)
  have G10 := hide (G10D.out.below hbG G10D.out.lt)
  clear hbG HD KD G10D
  go_wp2_with fail
  refine (span_nob _ _ (HT.out.ns.bare)).mono ?_
  rintro r wH ⟨rfl, hbH⟩
  have HD := hide (HT.out.below hbH)
  have KD := hide (mark_below HK.out hbH)
  have G10D := hide (G10.out.below hbH G10.out.lt)
  clear hbH HT HK G10
  have hc9 : wH.cell? ⟨c92, 0, none⟩ = some (.int .i64 0) := by rw [HD.out.c9.cell]; rfl
  go_wp2_with (first | (go_at_call 24; refine (len_nob _ _ (HD.out.ns.bare)).mono ?_; rintro r w' ⟨rfl, rfl⟩) | (refine step_loadA wD rfl rfl G10D.out rfl ?_) | (refine step_buildD rfl ?_) | (refine step_neA aD rfl rfl rfl rfl rfl ?_) | (go_at_call 12; refine (clone_nob _ _ (HD.out.ns.bare)).mono ?_; rintro r w' ⟨rfl, rfl⟩) | (go_at_call 25; refine (bytes_nob _ _ (HD.out.ns.bare)).mono ?_; rintro r w' ⟨rfl, rfl⟩))
  rw [rounds_succ]
  go_wp2_with (go_at_call 24; refine (rlen_any _ _ _ _ _ _ _ HD.out.ns.co).mono ?_; rintro r w' ⟨rfl, rfl⟩)
  have hDD : D1 ≠ D2 := by have := hlt2 D1 (by simp); omega
  have k1 := HD.out.marks D1 (by simp)
  have k2 := KD.out
  have k1' : (wH.putObj D2 (.deferred none)).heap[D1]? = some (.deferred (some [])) := by
    rw [World.putObj_heap_other hDD]
    exact k1
  have BA := HD.out.ns.bel.trans (belowK_b (w := w) (Nat.le_refl _) _ D2 _ (.deferred none) (by omega) k2 rfl rfl)
  have BC := BA.trans (belowK_b (w := w) (Nat.le_refl _) _ D1 _ (.deferred none) (by omega) k1' rfl rfl)
  refine ⟨by simp, .inl ⟨_, _, rfl, run_takeDeferred k2, ?_⟩⟩
  refine ⟨by simp, .inl ⟨_, _, rfl, run_takeDeferred k1', ?_⟩⟩
  exact ⟨.bool true, by simp [results, Tryd.f5, go_sem], rfl, BC⟩

theorem cnob_all (level : Int) (ds : List Int) (w : World) (hw : (Lit.int .i64 level).wf = true) (hl : ds.length = 32) (hb : ∀ x ∈ ds, (Lit.int .u8 x).wf = true) :
    Calls Tryd.prog 5 #[.int .i64 level, .agg (u8s ds).toArray] w fun e w' => e = .returned (.bool true) ∧ Below w.heap.size w w' := cnob_walk level ds w hl

end Go.Proofs.YthgfbcndoedacaaDoor
