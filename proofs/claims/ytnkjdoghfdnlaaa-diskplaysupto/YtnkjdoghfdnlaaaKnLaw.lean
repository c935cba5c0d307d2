/-
  The walk of DiskNobody.
-/
import Derived.Test.YtnkjdoghfdnlaaaKnb
import Derived.Test.YtnkjdoghfdnlaaaKac
namespace Go.Proofs.Ytnkjdoghfdnlaaa
open Go.RowKit Go.Shelf
set_option linter.unusedVariables false

theorem Blk.kept {A B : World} {g : Nat} {t : TypeId} {cs : List Value} {row : Option Nat} (h : Blk A g t cs) (hg : A.grownBy B row) (hr : ∀ r, row = some r → ∃ o : Obj, A.heap[r]? = some o ∧ o.isCells = false) : Blk B g t cs := by
  have e : B.heap[g]? = A.heap[g]? := hg.block g h.lt (fun e => by
    obtain ⟨o, ho, hc⟩ := hr g e.symm
    rw [h] at ho
    injection ho with ho
    subst ho
    cases hc)
  unfold Blk
  rw [e]
  exact h
/-- What stands through a round of the law's loop. -/
structure NS (w W : World) (g1 go mo gr b : Nat) (k : Int) (n t : ByteArray) (v : Value) (p q : Int) : Prop where
  c1 : Blk W g1 33 (acC k n t v p q)
  co : Blk W go 54 (dkC 1 (some mo) (.slice none 0 0) 0)
  cr : Blk W gr 54 (dkC 0 none (.slice none 0 0) 0)
  cb : Blk W b 23 [.pointer none, .pointer (some ⟨gr, 0, none⟩)]
  bel : Below w.heap.size w W
section
variable {w W W' : World} {g1 go mo gr b : Nat} {k : Int} {n t : ByteArray} {v : Value} {p q : Int}
theorem NS.below (h : NS w W g1 go mo gr b k n t v p q) (hb : Below W.heap.size W W') : NS w W' g1 go mo gr b k n t v p q :=
  ⟨h.c1.below hb h.c1.lt, h.co.below hb h.co.lt, h.cr.below hb h.cr.lt, h.cb.below hb h.cb.lt, h.bel.trans (hb.mono h.bel.size)⟩
theorem NS.kept {row : Option Nat} (h : NS w W g1 go mo gr b k n t v p q) (hg : W.grownBy W' row) (hr : ∀ r, row = some r → w.heap.size ≤ r ∧ ∃ o : Obj, W.heap[r]? = some o ∧ o.isCells = false) : NS w W' g1 go mo gr b k n t v p q :=
  ⟨h.c1.kept hg (fun r e => (hr r e).2), h.co.kept hg (fun r e => (hr r e).2), h.cr.kept hg (fun r e => (hr r e).2), h.cb.kept hg (fun r e => (hr r e).2), h.bel.grown hg h.bel.size (fun r e => (hr r e).1)⟩
end
theorem mark_kept {A B : World} {row : Option Nat} {D n : Nat} (hx : A.heap[D]? = some (.deferred (some []))) (hg : A.grownBy B row) (hr : ∀ r, row = some r → n ≤ r ∧ ∃ o : Obj, A.heap[r]? = some o ∧ o.isCells = false) (hD : D < n) : B.heap[D]? = some (.deferred (some [])) := by
  rw [hg.block D (Array.getElem?_eq_some_iff.1 hx).1 (fun e => by have := (hr D e.symm).1; omega)]
  exact hx
theorem mark_below {W W' : World} {D : Nat} (h : W.heap[D]? = some (.deferred (some []))) (hb : Below W.heap.size W W') : W'.heap[D]? = some (.deferred (some [])) :=
  (hb.block D (Array.getElem?_eq_some_iff.1 h).1).trans h
/-- A world in which the round's own cell stands beside, and the marks of the loops that are done. -/
structure NT (w W : World) (g1 go mo gr b : Nat) (k : Int) (n t : ByteArray) (v : Value) (p q : Int) (c9 : Nat) (M : List Nat) : Prop where
  ns : NS w W g1 go mo gr b k n t v p q
  c9 : Blk W c9 3 [.int .i64 0]
  marks : ∀ D ∈ M, W.heap[D]? = some (.deferred (some []))
section
variable {w W W' : World} {g1 go mo gr b : Nat} {k : Int} {n t : ByteArray} {v : Value} {p q : Int} {c9 : Nat} {M : List Nat}
theorem NT.below (h : NT w W g1 go mo gr b k n t v p q c9 M) (hb : Below W.heap.size W W') : NT w W' g1 go mo gr b k n t v p q c9 M := ⟨h.ns.below hb, h.c9.below hb h.c9.lt, fun D hD => mark_below (h.marks D hD) hb⟩
theorem NT.mk0 (h : NS w W g1 go mo gr b k n t v p q) (hM : ∀ D ∈ M, W.heap[D]? = some (.deferred (some []))) : NT w (W.alloc (.cells #[.int .i64 0] 3)) g1 go mo gr b k n t v p q W.heap.size M :=
  ⟨h.below ((Below.refl _ _).alloc (Nat.le_refl _) _), Blk.made W 3 [.int .i64 0], fun D hD => mark_below (hM D hD) ((Below.refl _ _).alloc (Nat.le_refl _) _)⟩
theorem NS.bare (h : NS w W g1 go mo gr b k n t v p q) : Nob W (some ⟨gr, 0, none⟩) := .inr ⟨gr, rfl, by rw [h.cr.cell]; rfl⟩
theorem NS.nil (h : NS w W g1 go mo gr b k n t v p q) : Nob W none := .inl rfl
theorem NS.own (h : NS w W g1 go mo gr b k n t v p q) : W.cell? ⟨go, 0, none⟩ = some (.int .i64 1) := by rw [h.co.cell]; rfl
theorem NS.c (h : NS w W g1 go mo gr b k n t v p q) : W.cell? ⟨g1, 1, none⟩ = some (.string n) ∧ W.cell? ⟨g1, 2, none⟩ = some (.string t) ∧ W.cell? ⟨g1, 3, none⟩ = some v ∧ W.cell? ⟨g1, 4, none⟩ = some (.int .i64 p) ∧ W.cell? ⟨g1, 5, none⟩ = some (.int .i64 q) := by
  refine ⟨?_, ?_, ?_, ?_, ?_⟩ <;> (rw [h.c1.cell]; rfl)
end

set_option maxRecDepth 100000 in
set_option maxHeartbeats 2000000 in
theorem dnob_walk (k : Int) (n t : ByteArray) (a : Option Addr) (len cap : Nat) (p q : Int) (w : World) :
    Calls Try.prog 4 #[.agg (acC k n t (.slice a len cap) p q).toArray] w fun e w' => e = .returned (.bool true) ∧ Below w.heap.size w w' := by
  obtain ⟨v, hv⟩ : ∃ v, v = Value.slice a len cap := ⟨_, rfl⟩
  rw [← hv]
  clear hv
  refine (callsIn_wide (n := 3)).1 ?_
  refine callsIn_of_wp_marks Try.func4 rfl trivial ?_ rfl
  refine wpIn_wide.2 ?_
  simp only [Try.ntmps4, List.size_toArray, List.length_cons, List.length_nil, Nat.reduceAdd, Nat.reduceSub, Array.replicate_succ, Array.replicate_zero, List.push_toArray, List.append_toArray, List.nil_append, List.cons_append]
  go_wp2_with (refine step_box rfl rfl ?_)
  intro w1 g1 hg1 hle1 hb1
  have G1 := hide hg1
  clear hg1
  go_wp2_with fail
  refine (new_ok 1 _ (by omega) (by omega)).mono ?_
  rintro r w2 ⟨go, mo, rfl, hN⟩
  have hb2 := hN.bel
  have GO := hide hN.dk
  clear hN
  go_wp2_with (first | (refine step_buildDk0 rfl ?_) | (refine step_box (cs := dkC 0 none (.slice none 0 0) 0) rfl rfl ?_; intro w3 gr hgr hler hb3; have GR := hide hgr; clear hgr))
  have NS0 : NS w (w3.alloc (Obj.cells #[Value.pointer none, Value.pointer (some { block := gr, off := 0 })] 23)) g1 go mo gr w3.heap.size k n t v p q := by
    have h0 : Below w3.heap.size w3 (w3.alloc (Obj.cells #[Value.pointer none, Value.pointer (some { block := gr, off := 0 })] 23)) := (Below.refl _ _).alloc (Nat.le_refl _) _
    have h23 := hb2.trans (hb3.mono hb2.size)
    have h24 := h23.trans (h0.mono h23.size)
    exact ⟨G1.out.below h24 G1.out.lt, (GO.out.below hb3 GO.out.lt).below h0 (GO.out.below hb3 GO.out.lt).lt, GR.out.below h0 GR.out.lt, Blk.made w3 _ _, hb1.trans (h24.mono hb1.size)⟩
  revert NS0
  generalize w3.alloc (Obj.cells #[Value.pointer none, Value.pointer (some { block := gr, off := 0 })] 23) = w4
  generalize w3.heap.size = b
  intro NS0
  have N0 := hide NS0
  have hs0 : w4.cell? ⟨b, 0, none⟩ = some (.pointer none) := by rw [NS0.cb.cell]; rfl
  clear NS0 hb1 hb2 hb3 hle1 hler G1 GO GR
  refine wp_loop_rounds 3 ?_
  rw [rounds_succ]
  go_wp2_with fail
  have T0 := NT.mk0 (M := []) N0.out (fun _ h => by cases h)
  have hbT : Below w4.heap.size w4 (w4.alloc (.cells #[.int .i64 0] 3)) := (Below.refl _ _).alloc (Nat.le_refl _) _
  revert T0 hbT
  generalize w4.alloc (.cells #[.int .i64 0] 3) = Wa1
  generalize w4.heap.size = c91 at *
  intro T0 hbT
  refine (list_any none _).mono ?_
  rintro r W5 ⟨rfl, rfl⟩
  have hbA : Below Wa1.heap.size Wa1 (Wa1.alloc (.cells #[.pointer none] 23)) := (Below.refl _ _).alloc (Nat.le_refl _) _
  have T1 := T0.below hbA
  revert T1 hbA
  generalize Wa1.alloc (.cells #[.pointer none] 23) = Wb1
  generalize Wa1.heap.size = bx01
  intro hbA T1
  have heq : ∀ v : World, (binOp BinOp.eql 57 (.func (.func 50) #[] #[.pointer (some ⟨bx01, 0, none⟩)]) .nilFunc).run Try.prog v = .ok (.bool false) v := fun v => by kernel_rfl
  go_wp2_with fail
  refine (list_any none _).mono ?_
  rintro r W5 ⟨rfl, rfl⟩
  have hbB : Below Wb1.heap.size Wb1 (Wb1.alloc (.cells #[.pointer none] 23)) := (Below.refl _ _).alloc (Nat.le_refl _) _
  have T2 := T1.below hbB
  have BX : Blk (Wb1.alloc (.cells #[.pointer none] 23)) Wb1.heap.size 23 [.pointer none] := Blk.made _ _ _
  revert T2 hbB BX
  generalize Wb1.alloc (.cells #[.pointer none] 23) = Wc1
  generalize Wb1.heap.size = bx1
  intro hbB T2 BX
  have HT := hide T2
  have hlt1 : ∀ D ∈ [], D < Wc1.heap.size := fun D hD => (Array.getElem?_eq_some_iff.1 (T2.marks D hD)).1
  have hws1 := T2.ns.bel.size
  clear heq T0 T1 T2 hbT hbA hbB
  go_wp2_with fail
  refine (wpIn_wide (n := 3)).1 ?_
  refine wpIn_rangeFunc_ownF rfl (by decide) (gf := 50) (lb := #[.pointer (some ⟨bx1, 0, none⟩)]) rfl trivial (enters_of Try.func50 (by kernel_rfl) rfl)
    (list_nob_stops bx1 Wc1.heap.size none Wc1 BX.lt (Nat.le_refl _) (by rw [BX.cell]; rfl) (HT.out.ns.nil)) belowK_t (belowK_b (Nat.le_refl _)) (Below.refl _ _) (fun _ => rfl)
    (fun pre W' => pre = [] ∧ NT w W' g1 go mo gr b k n t v p q c91 []) (fun _ _ _ => False)
    (fun _ A B row h hg hr => ⟨h.1, ⟨h.2.ns.kept hg (fun r e => ⟨by have := (hr r e).1; have := HT.out.ns.bel.size; omega, (hr r e).2⟩), h.2.c9.kept hg (fun r e => (hr r e).2), fun D hD => mark_kept (h.2.marks D hD) hg hr (Array.getElem?_eq_some_iff.1 (HT.out.marks D hD)).1⟩⟩)
    (fun c _ A B row h hg hr => h)
    ⟨rfl, HT.out⟩ ?act1 ?assign1 ?body1 ?done1 ?stop1
  case assign1 =>
    intro l x W K hK
    have hsem := Oper.semAt_some
    gi_wp2
    exact hK
  case body1 =>
    rintro l pre x W hI hlt
    exact absurd hlt (by omega)
  case stop1 =>
    rintro D c pre W hD hSp h hK
    exact h.elim
  rintro D1 ys W1 hD1 rfl ⟨_, hT⟩ hK1
  have HT := hide hT
  have HK := hide hK1
  obtain ⟨k1, k2, k3, k4, k5⟩ := hT.ns.c
  clear hT hK1
  go_wp2_with (first | (go_at_call 21; refine (read_nob _ _ (HT.out.ns.nil) _ _ _).mono ?_; rintro e w' ⟨rfl, rfl⟩) | (go_at_call 29; refine (size_nob _ _ (HT.out.ns.nil) _).mono ?_; rintro e w' ⟨rfl, rfl⟩))
  refine (raw_nob _ _ _ (HT.out.ns.nil)).mono ?_
  rintro r wA ⟨rfl, hbA⟩
  have HA := hide (HT.out.below hbA)
  have KA := hide (mark_below HK.out hbA)
  clear HT HK hbA k1 k2 k3 k4 k5
  go_wp2_with (refine step_alloc zRw rfl ?_)
  intro wB g10 hg10 hle10 hbB
  go_wp2_with (refine step_storeA wRw rfl rfl rfl hg10 rfl (One.rw _ _ _ _ _ _ _) rfl ?_)
  intro wC hg10C hbut
  have hbC := hbB.trans (hbut.below hle10)
  have HT := hide (HA.out.below hbC)
  have HK := hide (mark_below KA.out hbC)
  have G10 := hide hg10C
  obtain ⟨k1, k2, k3, k4, k5⟩ := HT.out.ns.c
  have hc9 : wC.cell? ⟨c91, 0, none⟩ = some (.int .i64 0) := by rw [HT.out.c9.cell]; rfl
  clear hbB hbut hbC HA KA hg10 hg10C
  go_wp2_with (first | (go_at_call 23; refine (after_nob _ _ (HT.out.ns.nil) _).mono ?_; rintro e w' ⟨rfl, rfl⟩) | (go_at_call 10; refine (create_nob _ _ (HT.out.ns.nil) _).mono ?_; rintro e w' ⟨rfl, rfl⟩) | (go_at_call 12; refine (append_nob _ _ (HT.out.ns.nil) _ _).mono ?_; rintro e w' ⟨rfl, rfl⟩) | (go_at_call 15; refine (cut_nob _ _ (HT.out.ns.nil) _ _).mono ?_; rintro e w' ⟨rfl, rfl⟩) | (go_at_call 17; refine (remove_nob _ _ (HT.out.ns.nil) _).mono ?_; rintro e w' ⟨rfl, rfl⟩) | (go_at_call 19; refine (rename_nob _ _ (HT.out.ns.nil) _ _).mono ?_; rintro e w' ⟨rfl, rfl⟩) | (refine step_loadA wRw rfl rfl G10.out rfl ?_) | (refine step_buildRw0 rfl ?_))
  refine (raws_zero _).mono ?_
  rintro r wD ⟨rfl, hbD⟩
  have HA := hide (HT.out.below hbD)
  have KA := hide (mark_below HK.out hbD)
  clear HT HK hbD k1 k2 k3 k4 k5 hc9 G10
  go_wp2_with (first | (go_at_call 32; refine (writes_nob _ _ (HA.out.ns.nil)).mono ?_; rintro e w' ⟨rfl, rfl⟩) | (go_at_call 33; refine (sector_nob _ _ (HA.out.ns.nil)).mono ?_; rintro e w' ⟨rfl, rfl⟩))
  refine (same_nob _ _ _ (HA.out.ns.nil)).mono ?_
  rintro r wE ⟨rfl, hbE⟩
  have HT := hide (HA.out.below hbE)
  have HK := hide (mark_below KA.out hbE)
  clear HA KA hbE
  go_wp2_with fail
  refine (same_nob2 _ _ _ _ (HT.out.ns.nil) HT.out.ns.own (by decide)).mono ?_
  rintro r wH ⟨rfl, hbH⟩
  have HD := hide (HT.out.below hbH)
  have KD := hide (mark_below HK.out hbH)
  clear HT HK hbH
  go_wp2_with fail
  clear N0 hs0
  have N0 := hide HD.out.ns
  have hM : ∀ D ∈ [D1], wH.heap[D]? = some (.deferred (some [])) := fun D hD => by
    obtain rfl : D = D1 := by simpa using hD
    exact KD.out
  have hs1 : wH.cell? ⟨b, 1, none⟩ = some (.pointer (some ⟨gr, 0, none⟩)) := by rw [HD.out.ns.cb.cell]; rfl
  clear HD KD BX
  rw [rounds_succ]
  go_wp2_with fail
  have T0 := NT.mk0 (M := [D1]) N0.out hM
  have hbT : Below wH.heap.size wH (wH.alloc (.cells #[.int .i64 0] 3)) := (Below.refl _ _).alloc (Nat.le_refl _) _
  revert T0 hbT
  generalize wH.alloc (.cells #[.int .i64 0] 3) = Wa2
  generalize wH.heap.size = c92 at *
  intro T0 hbT
  refine (list_any (some ⟨gr, 0, none⟩) _).mono ?_
  rintro r W5 ⟨rfl, rfl⟩
  have hbA : Below Wa2.heap.size Wa2 (Wa2.alloc (.cells #[.pointer (some ⟨gr, 0, none⟩)] 23)) := (Below.refl _ _).alloc (Nat.le_refl _) _
  have T1 := T0.below hbA
  revert T1 hbA
  generalize Wa2.alloc (.cells #[.pointer (some ⟨gr, 0, none⟩)] 23) = Wb2
  generalize Wa2.heap.size = bx02
  intro hbA T1
  have heq : ∀ v : World, (binOp BinOp.eql 57 (.func (.func 50) #[] #[.pointer (some ⟨bx02, 0, none⟩)]) .nilFunc).run Try.prog v = .ok (.bool false) v := fun v => by kernel_rfl
  go_wp2_with fail
  refine (list_any (some ⟨gr, 0, none⟩) _).mono ?_
  rintro r W5 ⟨rfl, rfl⟩
  have hbB : Below Wb2.heap.size Wb2 (Wb2.alloc (.cells #[.pointer (some ⟨gr, 0, none⟩)] 23)) := (Below.refl _ _).alloc (Nat.le_refl _) _
  have T2 := T1.below hbB
  have BX : Blk (Wb2.alloc (.cells #[.pointer (some ⟨gr, 0, none⟩)] 23)) Wb2.heap.size 23 [.pointer (some ⟨gr, 0, none⟩)] := Blk.made _ _ _
  revert T2 hbB BX
  generalize Wb2.alloc (.cells #[.pointer (some ⟨gr, 0, none⟩)] 23) = Wc2
  generalize Wb2.heap.size = bx2
  intro hbB T2 BX
  have HT := hide T2
  have hlt2 : ∀ D ∈ [D1], D < Wc2.heap.size := fun D hD => (Array.getElem?_eq_some_iff.1 (T2.marks D hD)).1
  have hws2 := T2.ns.bel.size
  clear heq T0 T1 T2 hbT hbA hbB
  go_wp2_with fail
  refine (wpIn_wide (n := 3)).1 ?_
  refine wpIn_rangeFunc_ownF rfl (by decide) (gf := 50) (lb := #[.pointer (some ⟨bx2, 0, none⟩)]) rfl trivial (enters_of Try.func50 (by kernel_rfl) rfl)
    (list_nob_stops bx2 Wc2.heap.size (some ⟨gr, 0, none⟩) Wc2 BX.lt (Nat.le_refl _) (by rw [BX.cell]; rfl) (HT.out.ns.bare)) belowK_t (belowK_b (Nat.le_refl _)) (Below.refl _ _) (fun _ => rfl)
    (fun pre W' => pre = [] ∧ NT w W' g1 go mo gr b k n t v p q c92 [D1]) (fun _ _ _ => False)
    (fun _ A B row h hg hr => ⟨h.1, ⟨h.2.ns.kept hg (fun r e => ⟨by have := (hr r e).1; have := HT.out.ns.bel.size; omega, (hr r e).2⟩), h.2.c9.kept hg (fun r e => (hr r e).2), fun D hD => mark_kept (h.2.marks D hD) hg hr (Array.getElem?_eq_some_iff.1 (HT.out.marks D hD)).1⟩⟩)
    (fun c _ A B row h hg hr => h)
    ⟨rfl, HT.out⟩ ?act2 ?assign2 ?body2 ?done2 ?stop2
  case assign2 =>
    intro l x W K hK
    have hsem := Oper.semAt_some
    gi_wp2
    exact hK
  case body2 =>
    rintro l pre x W hI hlt
    exact absurd hlt (by omega)
  case stop2 =>
    rintro D c pre W hD hSp h hK
    exact h.elim
  rintro D2 ys W2 hD2 rfl ⟨_, hT⟩ hK2
  have HT := hide hT
  have HK := hide hK2
  obtain ⟨k1, k2, k3, k4, k5⟩ := hT.ns.c
  clear hT hK2
  go_wp2_with (first | (go_at_call 21; refine (read_nob _ _ (HT.out.ns.bare) _ _ _).mono ?_; rintro e w' ⟨rfl, rfl⟩) | (go_at_call 29; refine (size_nob _ _ (HT.out.ns.bare) _).mono ?_; rintro e w' ⟨rfl, rfl⟩))
  refine (raw_nob _ _ _ (HT.out.ns.bare)).mono ?_
  rintro r wA ⟨rfl, hbA⟩
  have HA := hide (HT.out.below hbA)
  have KA := hide (mark_below HK.out hbA)
  clear HT HK hbA k1 k2 k3 k4 k5
  go_wp2_with (refine step_alloc zRw rfl ?_)
  intro wB g10 hg10 hle10 hbB
  go_wp2_with (refine step_storeA wRw rfl rfl rfl hg10 rfl (One.rw _ _ _ _ _ _ _) rfl ?_)
  intro wC hg10C hbut
  have hbC := hbB.trans (hbut.below hle10)
  have HT := hide (HA.out.below hbC)
  have HK := hide (mark_below KA.out hbC)
  have G10 := hide hg10C
  obtain ⟨k1, k2, k3, k4, k5⟩ := HT.out.ns.c
  have hc9 : wC.cell? ⟨c92, 0, none⟩ = some (.int .i64 0) := by rw [HT.out.c9.cell]; rfl
  clear hbB hbut hbC HA KA hg10 hg10C
  go_wp2_with (first | (go_at_call 23; refine (after_nob _ _ (HT.out.ns.bare) _).mono ?_; rintro e w' ⟨rfl, rfl⟩) | (go_at_call 10; refine (create_nob _ _ (HT.out.ns.bare) _).mono ?_; rintro e w' ⟨rfl, rfl⟩) | (go_at_call 12; refine (append_nob _ _ (HT.out.ns.bare) _ _).mono ?_; rintro e w' ⟨rfl, rfl⟩) | (go_at_call 15; refine (cut_nob _ _ (HT.out.ns.bare) _ _).mono ?_; rintro e w' ⟨rfl, rfl⟩) | (go_at_call 17; refine (remove_nob _ _ (HT.out.ns.bare) _).mono ?_; rintro e w' ⟨rfl, rfl⟩) | (go_at_call 19; refine (rename_nob _ _ (HT.out.ns.bare) _ _).mono ?_; rintro e w' ⟨rfl, rfl⟩) | (refine step_loadA wRw rfl rfl G10.out rfl ?_) | (refine step_buildRw0 rfl ?_))
  refine (raws_zero _).mono ?_
  rintro r wD ⟨rfl, hbD⟩
  have HA := hide (HT.out.below hbD)
  have KA := hide (mark_below HK.out hbD)
  clear HT HK hbD k1 k2 k3 k4 k5 hc9 G10
  go_wp2_with (first | (go_at_call 32; refine (writes_nob _ _ (HA.out.ns.bare)).mono ?_; rintro e w' ⟨rfl, rfl⟩) | (go_at_call 33; refine (sector_nob _ _ (HA.out.ns.bare)).mono ?_; rintro e w' ⟨rfl, rfl⟩))
  refine (same_nob _ _ _ (HA.out.ns.bare)).mono ?_
  rintro r wE ⟨rfl, hbE⟩
  have HT := hide (HA.out.below hbE)
  have HK := hide (mark_below KA.out hbE)
  clear HA KA hbE
  go_wp2_with fail
  refine (same_nob2 _ _ _ _ (HT.out.ns.bare) HT.out.ns.own (by decide)).mono ?_
  rintro r wH ⟨rfl, hbH⟩
  have HD := hide (HT.out.below hbH)
  have KD := hide (mark_below HK.out hbH)
  clear HT HK hbH
  go_wp2_with fail
  rw [rounds_succ]
  go_wp2_with (go_at_call 25; refine (same_nils _).mono ?_; rintro r wH ⟨rfl, rfl⟩)
  have hDD : D1 ≠ D2 := by have := hlt2 D1 (by simp); omega
  have k1 := HD.out.marks D1 (by simp)
  have k2 := KD.out
  have k1' : (wH.putObj D2 (.deferred none)).heap[D1]? = some (.deferred (some [])) := by
    rw [World.putObj_heap_other hDD]
    exact k1
  have BA := HD.out.ns.bel.trans (belowK_b (w := w) (Nat.le_refl _) _ D2 _ (.deferred none) (by omega) k2 rfl rfl)
  have BC := BA.trans (belowK_b (w := w) (Nat.le_refl _) _ D1 _ (.deferred none) (by omega) k1' rfl rfl)
  refine ⟨by simp, .inl ⟨_, _, rfl, run_takeDeferred k2, ?_⟩⟩
  refine ⟨by simp, .inl ⟨_, _, rfl, run_takeDeferred k1', ?_⟩⟩
  exact ⟨.bool true, by simp [results, Try.f4, go_sem], rfl, BC⟩

end Go.Proofs.Ytnkjdoghfdnlaaa
