/-
  The law's look: an index beside the document's.
-/
import Derived.Test.YtabpfbankinojaaDpg
import Derived.Test.YtabpfbankinojaaDroC
namespace Go.Proofs.Ytabpfbankinojaa
open Go.RowKit Go.Shelf
set_option linter.unusedVariables false
set_option linter.unusedSimpArgs false
set_option maxRecDepth 100000

/-- What stands while both are looked at. -/
structure SW (w W : World) (g0 g4 g5 r6 : Nat) (v : Value) (us : List Value) (rs : List (List Ent)) (iv rv : Value) (L : List Ent) (R : List Nat) (d : List Int) : Prop where
  ix : IxA W g0 v us rs
  c4 : Blk W g4 30 [iv, rv]
  c5 : Blk W g5 24 (u8s d)
  r : Blk W r6 4 [.bool false]
  dx : Dx W iv rv L R
  bel : Below w.heap.size w W
  lr : w.heap.size ≤ r6
section
variable {w W W' : World} {g0 g4 g5 r6 : Nat} {v : Value} {us : List Value} {rs : List (List Ent)} {iv rv : Value} {L : List Ent} {R : List Nat} {d : List Int}
theorem SW.on (h : SW w W g0 g4 g5 r6 v us rs iv rv L R d) (hb : Below W.heap.size W W') : SW w W' g0 g4 g5 r6 v us rs iv rv L R d :=
  ⟨h.ix.on hb, h.c4.on hb, h.c5.on hb, h.r.on hb, h.dx.on hb, on_below h.bel hb, h.lr⟩
end
/-- While the runs of both are compared. -/
structure LQ (w1 W : World) (ga gb m i D : Nat) (R : List Nat) : Prop where
  bel : Below w1.heap.size w1 W
  mark : MK [D] W
  a : ∃ cs, Blk W ga 3 cs ∧ cs.length = m ∧ ∀ j, i ≤ j → cs[j]? = (ns R)[j]?
  b : Blk W gb 3 (ns R)
  la : w1.heap.size ≤ ga
  ab : gb ≠ ga
section
variable {w1 W W' : World} {ga gb m i D : Nat} {R : List Nat}
theorem LQ.on (h : LQ w1 W ga gb m i D R) (hb : Below W.heap.size W W') : LQ w1 W' ga gb m i D R := by
  obtain ⟨cs, h1, h2⟩ := h.a
  exact ⟨on_below h.bel hb, h.mark.on hb, ⟨cs, h1.on hb, h2⟩, h.b.on hb, h.la, h.ab⟩
theorem LQ.put (x : Value) (h : LQ w1 W ga gb m i D R) : LQ w1 (W.setCell ⟨ga, i, none⟩ x) ga gb m (i + 1) D R := by
  obtain ⟨cs, h1, h2, h3⟩ := h.a
  have hbut := But.setCell W ga i x
  have hob : OnlyB ga W (W.setCell ⟨ga, i, none⟩ x) := OnlyB.but (Below.refl _ _) hbut
  exact ⟨h.bel.trans (hbut.below h.la), h.mark.only hob h1, ⟨cs.set i x, h1.set i x, by rw [List.length_set]; exact h2, fun j hj => by rw [List.getElem?_set_ne (by omega)]; exact h3 j (by omega)⟩, h.b.only hob h.ab, h.la, h.ab⟩
theorem LQ.ca (h : LQ w1 W ga gb m i D R) (hi : i < R.length) : W.cell? ⟨ga, i, none⟩ = some (.int .i64 (R.getD i 0 : Int)) := by
  obtain ⟨cs, h1, h2, h3⟩ := h.a
  rw [h1.cell, h3 i (Nat.le_refl _), ns_at R i hi]
theorem LQ.cb (h : LQ w1 W ga gb m i D R) {j : Nat} (hi : j < R.length) : W.cell? ⟨gb, j, none⟩ = some (.int .i64 (R.getD j 0 : Int)) := by
  rw [h.b.cell, ns_at R j hi]
end
set_option maxHeartbeats 4000000 in
theorem stands_any (g0 : Nat) (v : Value) (us : List Value) (rs : List (List Ent)) (iv rv : Value) (d : List Int) (w : World) (hI : IxA w g0 v us rs) (hD : Dx w iv rv (allE rs) (lens rs)) (hl : d.length = 32) (hb : isB d) (hc : cnt rs ≤ 4398046511104) :
    Calls Try.prog 8 #[.pointer (some ⟨g0, 0, none⟩), .agg #[iv, rv], .agg (u8s d).toArray] w fun e w' => e = .returned (.bool true) ∧ Below w.heap.size w w' := by
  have HL := hide hl
  have HB := hide hb
  have HI := hide hI
  have HOK := hide hI.ok
  have hfew := hI.ok.few hc
  have HFD := hide (fnd_allE hI.ok d)
  have HCN : Hid (cnt rs = (allE rs).length) := hide (allE_len rs).symm
  have HSQ0 := hide (fun x2 w5 (h : IxA w5 g0 v us rs) h2 => alls_seq g0 v us rs x2 5 w5 h h2 hfew)
  have hlm : (lens rs).length = rs.length := by simp [lens]
  obtain ⟨L, hL⟩ : ∃ L, allE rs = L := ⟨_, rfl⟩
  obtain ⟨R, hR⟩ : ∃ R, lens rs = R := ⟨_, rfl⟩
  have HRR := hide hR
  rw [hL] at HCN HFD HSQ0 hD
  rw [hR] at hD hlm
  obtain ⟨ia, ic, rfl⟩ := hD.si
  obtain ⟨ra, rc, rfl⟩ := hD.sr
  have HDX := hide hD
  obtain ⟨n, hnn⟩ : ∃ n, L.length = n := ⟨_, rfl⟩
  have HN := hide hnn
  obtain ⟨m, hmm⟩ : ∃ m, R.length = m := ⟨_, rfl⟩
  have HM := hide hmm
  rw [hmm] at hlm
  have HRM := hide hlm.symm
  rw [hnn, hmm] at HDX ⊢
  have hn9 : n ≤ 4398046511104 := by have := HCN.out; omega
  have hm9 : m ≤ 64 := by omega
  clear hI hD hl hb hL hnn hmm hlm hR hc hfew
  refine (callsIn_wide (n := 6)).1 ?_
  refine callsIn_of_wp_marks Try.func8 rfl trivial ?_ rfl
  refine wpIn_wide.2 ?_
  simp only [Try.ntmps8, List.size_toArray, List.length_cons, List.length_nil, Nat.reduceAdd, Nat.reduceSub, Array.replicate_succ, Array.replicate_zero, List.push_toArray, List.append_toArray, List.nil_append, List.cons_append]
  go_wp2_with (refine step_box (cs := [.slice ia n ic, .slice ra m rc]) rfl rfl ?_)
  intro w1 g4 hg4 hle4 hb1
  have G4 := hide hg4
  have B1 := hide hb1
  clear hg4 hb1
  go_wp2_with (refine step_box (cs := u8s d) rfl rfl ?_)
  intro w2 g5 hg5 hle5 hb2
  have G5 := hide hg5
  have G45 := hide (G4.out.on hb2)
  have B2 := hide (on_below B1.out hb2)
  clear hg5 hb2 hle4 hle5 B1 G4
  go_wp2_with fail
  obtain ⟨w3, hw3⟩ : ∃ w3, w2.alloc (.cells #[.bool false] 4) = w3 := ⟨_, rfl⟩
  obtain ⟨r6, hr6⟩ : ∃ r6, w2.heap.size = r6 := ⟨_, rfl⟩
  have hC6 : Blk w3 r6 4 [.bool false] := by rw [← hw3, ← hr6]; exact Blk.made w2 _ [.bool false]
  have hB3 : Below w2.heap.size w2 w3 := by rw [← hw3]; exact (Below.refl _ _).alloc (Nat.le_refl _) _
  have hS3 : r6 + 1 = w3.heap.size := by rw [← hw3, ← hr6]; exact (World.size_alloc _ _).symm
  have HW3 : Hid (SW w w3 g0 g4 g5 r6 v us rs (.slice ia n ic) (.slice ra m rc) L R d) := hide ⟨(HI.out.on B2.out).on hB3, G45.out.on hB3, G5.out.on hB3, hC6, (HDX.out.on B2.out).on hB3, on_below B2.out hB3, by rw [← hr6]; exact B2.out.size⟩
  rw [hw3, hr6, hS3]
  obtain ⟨w4, hw4⟩ : ∃ w4, w3.alloc (.cells #[.int .i64 0] 3) = w4 := ⟨_, rfl⟩
  obtain ⟨b7, hb7⟩ : ∃ b7, w3.heap.size = b7 := ⟨_, rfl⟩
  have hC7 : Blk w4 b7 3 [.int .i64 0] := by rw [← hw4, ← hb7]; exact Blk.made w3 _ _
  have HB4 : Hid (Below w3.heap.size w3 w4) := hide (by rw [← hw4]; exact (Below.refl _ _).alloc (Nat.le_refl _) _)
  have HB7 := hide hb7
  rw [hw4, hb7]
  clear hw3 hr6 hC6 hB3 hS3 hw4 hb7 G45 G5 B2 HI HDX
  refine (all_mk (some ⟨g0, 0, none⟩) _).mono ?_
  rintro e w5 ⟨x1, rfl, _, _, hb5⟩
  have HC5 := hide (hC7.on hb5)
  have HB5 := hide (on_below HB4.out hb5)
  clear hb5 hC7 HB4
  have heq : ∀ (p : Option Addr) (v : World), (binOp BinOp.eql 45 (.func (.func 23) #[] #[.pointer p]) .nilFunc).run Try.prog v = .ok (.bool false) v := fun p v => by kernel_rfl
  go_wp2_with fail
  refine (all_mk (some ⟨g0, 0, none⟩) _).mono ?_
  rintro e w6 ⟨x2, rfl, hbx, _, hb6⟩
  have HC6 := hide (HC5.out.on hb6)
  have HB6 := hide (on_below HB5.out hb6)
  have HW6 := hide (HW3.out.on HB6.out)
  have HSQ := hide (HSQ0.out x2 w6 HW6.out.ix hbx)
  have hb76 : b7 < w6.heap.size := HC6.out.lt
  have h37 : w3.heap.size ≤ b7 := Nat.le_of_eq HB7.out
  clear hb6 hbx HC5 HB5 heq HSQ0
  go_wp2_with fail
  refine (wpIn_wide (n := 6)).1 ?_
  refine rangeD (t := 59) (encs := encE) (L := L) rfl (by decide) (gf := 23) (lb := #[.pointer (some ⟨x2, 0, none⟩)]) rfl trivial (enters_of Try.func23 (by kernel_rfl) rfl)
    HSQ.out KR.trans KR.book (fun A C h => KR.below h) (fun _ => rfl)
    (fun i V => R2 w6 V b7 i) (fun _ _ _ => False) R2.ownT (fun _ _ _ _ _ h _ _ => h) ⟨HC6.out, OnlyB.refl _ _, hb76⟩ ?act2 (fun x g V => Blk V g 24 (u8s x.d)) (fun x g V l r o' hl hx => blk_loop V l r o' hl hx) ?assign2 ?body2 ?done2 ?stop2
  case assign2 =>
    rintro l x V K hx hK
    have hsem := Oper.semAt_some
    simp only [encE]
    have ez : ∀ (t : Array Value) (v u : Value), (Array.zip #[22, 23] #[v, u]).foldl (fun t (x : Tmp × Value) => t.setIfInBounds x.1 x.2) t = (t.setIfInBounds 22 v).setIfInBounds 23 u := fun t v u => by simp
    rw [ez]
    simp only [List.setIfInBounds_toArray, List.set_cons_succ, List.set_cons_zero]
    gi_wp2_with (refine istep_alloc (.round l) zD rfl ?_)
    intro V1 g9 hg9 hle9 hb9'
    gi_wp2_with (refine istep_storeA (.round l) wideD rfl rfl rfl hg9 (by rw [u8s_length, x.hl]) (One.u8 _) rfl ?_)
    intro V2 hg92 hbut9
    have hb92 : Below V.heap.size V V2 := hb9'.trans (hbut9.below hle9)
    have hK2 := hK g9 V2 hb92 hle9 hg92
    clear hK
    gi_wp2
    exact hK2
  case stop2 =>
    rintro D c i V hD hi hx hK
    exact hx.elim
  case body2 =>
    rintro l i x gx V hx hgx hbx hR
    have hsem := Oper.semAt_some
    have hiL := (List.getElem?_eq_some_iff.1 hx).1
    have hij : i < n := by rw [← HN.out]; exact hiL
    have hLx : L[i] = x := (List.getElem?_eq_some_iff.1 hx).2
    have HR := hide hR
    have HBV : Hid (Below w3.heap.size w3 V) := hide (HB6.out.trans (hR.only.below h37 HB6.out.size))
    have HWV := hide (HW3.out.on HBV.out)
    obtain ⟨g3, o3, hix, hrg⟩ := HWV.out.dx.at hiL
    rw [hLx] at hrg
    have HIX := hide hix
    have HRG : Hid (∀ W : World, Below V.heap.size V W → W.rangeAt g3 o3 (pc x)) := hide fun W hW => hrg W (HWV.out.dx.on hW)
    have hbx2 : Blk V gx 24 (u8s x.d) := hbx
    have HBX := hide hbx2
    have HXL := hide x.hl
    have hu := aDd.und
    have HX1 : Hid ((Try.prog.info? 24).map (·.size) = some (u8s x.d).length) := hide (by rw [wideD.size, u8s_length, x.hl])
    have HRX : Hid (∀ W : World, Below V.heap.size V W → W.rangeAt gx 0 (u8s x.d)) := hide (fun W hW => (HBX.out.on hW).range 0 _ (by rw [List.drop_zero, List.take_length]))
    have HCI : Hid (∀ W : World, Below V.heap.size V W → W.cell? ⟨b7, 0, none⟩ = some (.int .i64 (i : Int))) := hide (fun W hW => by rw [(HR.out.c.on hW).cell]; rfl)
    have HC4 : Hid (∀ W : World, Below V.heap.size V W → W.cell? ⟨g4, 0, none⟩ = some (.slice ia n ic)) := hide (fun W hW => by rw [((HWV.out.on hW).c4).cell]; rfl)
    have hge : ¬ (n : Int) ≤ (i : Int) := by omega
    clear hbx hbx2 hx hR HSQ hix hrg hLx
    gi_wp2_with fail
    refine wpIn_region_held (S := fun v => Below V.heap.size V v) (WideF.round l) (by kernel_rfl) (by kernel_rfl) (Below.refl V.heap.size V).drew (fun hHeld => ?_)
    refine takeH 0 24 (.int .i64 (i : Int)) hHeld rfl rfl (by kernel_rfl) (by kernel_rfl) (by kernel_rfl) (fun _ _ _ h => h) (Or.inl ⟨by rfl, fun w hw => by have hw' : w.cell? ⟨b7, 0, none⟩ = some (.int .i64 (i : Int)) := (fun hw => HCI.out _ hw) hw; go_simp⟩) ?_
    simp only [Act.put, List.setIfInBounds_toArray, List.set_cons_zero, List.set_cons_succ]
    refine takeH 1 25 (.pointer (some ⟨g4, 0, none⟩)) hHeld rfl rfl (by kernel_rfl) (by kernel_rfl) (by kernel_rfl) (fun _ _ _ h => h) (Or.inl ⟨by rfl, fun w _ => by go_simp⟩) ?_
    simp only [Act.put, List.setIfInBounds_toArray, List.set_cons_zero, List.set_cons_succ]
    refine takeH 2 26 (.slice ia n ic) hHeld rfl rfl (by kernel_rfl) (by kernel_rfl) (by kernel_rfl) (fun _ _ _ h => h) (Or.inl ⟨by rfl, fun w hw => by have hw' : w.cell? ⟨g4, 0, none⟩ = some (.slice ia n ic) := (fun hw => HC4.out _ hw) hw; go_simp⟩) ?_
    simp only [Act.put, List.setIfInBounds_toArray, List.set_cons_zero, List.set_cons_succ]
    refine takeH 3 27 (.int .i64 (n : Int)) hHeld rfl rfl (by kernel_rfl) (by kernel_rfl) (by kernel_rfl) (fun _ _ _ h => h) (Or.inl ⟨by rfl, fun w _ => by go_simp⟩) ?_
    simp only [Act.put, List.setIfInBounds_toArray, List.set_cons_zero, List.set_cons_succ]
    refine takeH 4 28 (.bool false) hHeld rfl rfl (by kernel_rfl) (by kernel_rfl) (by kernel_rfl) (fun _ _ _ h => h) (Or.inl ⟨by rfl, fun w _ => by go_simp⟩) ?_
    simp only [Act.put, List.setIfInBounds_toArray, List.set_cons_zero, List.set_cons_succ]
    refine takeH 5 29 (.bool false) hHeld rfl rfl (by kernel_rfl) (by kernel_rfl) (by kernel_rfl) (fun _ _ _ h => h) (Or.inl ⟨by rfl, fun w _ => by go_simp⟩) ?_
    simp only [Act.put, List.setIfInBounds_toArray, List.set_cons_zero, List.set_cons_succ]
    refine takeH 6 30 (.agg (u8s x.d).toArray) hHeld rfl rfl (by kernel_rfl) (by kernel_rfl) (by kernel_rfl) (fun _ _ _ h => h) (yieldsIf_load_mid (by rfl) _ _ rfl gx 0 rfl _ _ (fun V h => HRX.out V h) hu rfl HX1.out) ?_
    simp only [Act.put, List.setIfInBounds_toArray, List.set_cons_zero, List.set_cons_succ]
    refine takeH 7 31 (.pointer (some ⟨g4, 0, none⟩)) hHeld rfl rfl (by kernel_rfl) (by kernel_rfl) (by kernel_rfl) (fun _ _ _ h => h) (Or.inl ⟨by rfl, fun w _ => by go_simp⟩) ?_
    simp only [Act.put, List.setIfInBounds_toArray, List.set_cons_zero, List.set_cons_succ]
    refine takeH 8 32 (.slice ia n ic) hHeld rfl rfl (by kernel_rfl) (by kernel_rfl) (by kernel_rfl) (fun _ _ _ h => h) (Or.inl ⟨by rfl, fun w hw => by have hw' : w.cell? ⟨g4, 0, none⟩ = some (.slice ia n ic) := (fun hw => HC4.out _ hw) hw; go_simp⟩) ?_
    simp only [Act.put, List.setIfInBounds_toArray, List.set_cons_zero, List.set_cons_succ]
    refine takeH 9 33 (.int .i64 (i : Int)) hHeld rfl rfl (by kernel_rfl) (by kernel_rfl) (by kernel_rfl) (fun _ _ _ h => h) (Or.inl ⟨by rfl, fun w hw => by have hw' : w.cell? ⟨b7, 0, none⟩ = some (.int .i64 (i : Int)) := (fun hw => HCI.out _ hw) hw; go_simp⟩) ?_
    simp only [Act.put, List.setIfInBounds_toArray, List.set_cons_zero, List.set_cons_succ]
    refine takeH 10 34 (.pointer (some ⟨g3, o3, none⟩)) hHeld rfl rfl (by kernel_rfl) (by kernel_rfl) (by kernel_rfl) (fun _ _ _ h => h) (Or.inl ⟨by rfl, fun w _ => run_op rfl (HIX.out w)⟩) ?_
    simp only [Act.put, List.setIfInBounds_toArray, List.set_cons_zero, List.set_cons_succ]
    refine takeH 11 35 (.pointer (some ⟨g3, o3, none⟩)) hHeld rfl rfl (by kernel_rfl) (by kernel_rfl) (by kernel_rfl) (fun _ _ _ h => h) (Or.inl ⟨by rfl, fun w _ => by go_simp⟩) ?_
    simp only [Act.put, List.setIfInBounds_toArray, List.set_cons_zero, List.set_cons_succ]
    refine takeH 12 36 (.agg (u8s x.d).toArray) hHeld rfl rfl (by kernel_rfl) (by kernel_rfl) (by kernel_rfl) (fun _ _ _ h => h) (yieldsIf_load_mid (by rfl) _ _ rfl g3 o3 rfl _ _ (fun V h => rangeAt_d (HRG.out V h)) hu rfl HX1.out) ?_
    simp only [Act.put, List.setIfInBounds_toArray, List.set_cons_zero, List.set_cons_succ]
    refine takeH 13 37 (.bool (!decide (x.d = x.d))) hHeld rfl rfl (by kernel_rfl) (by kernel_rfl) (by kernel_rfl) (fun _ _ _ h => h) (Or.inl ⟨by rfl, fun v _ => run_neA aDd _ rfl rfl HXL.out HXL.out⟩) ?_
    simp only [Act.put, List.setIfInBounds_toArray, List.set_cons_zero, List.set_cons_succ]
    refine takeH 14 38 (.bool false) hHeld rfl rfl (by kernel_rfl) (by kernel_rfl) (by kernel_rfl) (fun _ _ _ h => h) (Or.inl ⟨by rfl, fun w _ => by go_simp⟩) ?_
    simp only [Act.put, List.setIfInBounds_toArray, List.set_cons_zero, List.set_cons_succ]
    refine takeH 15 39 (.bool false) hHeld rfl rfl (by kernel_rfl) (by kernel_rfl) (by kernel_rfl) (fun _ _ _ h => h) (Or.inl ⟨by rfl, fun w _ => by go_simp⟩) ?_
    simp only [Act.put, List.setIfInBounds_toArray, List.set_cons_zero, List.set_cons_succ]
    refine takeH 16 40 (.int .i64 x.p) hHeld rfl rfl (by kernel_rfl) (by kernel_rfl) (by kernel_rfl) (fun _ _ _ h => h) (Or.inl ⟨by rfl, fun w _ => by go_simp⟩) ?_
    simp only [Act.put, List.setIfInBounds_toArray, List.set_cons_zero, List.set_cons_succ]
    refine takeH 17 41 (.pointer (some ⟨g4, 0, none⟩)) hHeld rfl rfl (by kernel_rfl) (by kernel_rfl) (by kernel_rfl) (fun _ _ _ h => h) (Or.inl ⟨by rfl, fun w _ => by go_simp⟩) ?_
    simp only [Act.put, List.setIfInBounds_toArray, List.set_cons_zero, List.set_cons_succ]
    refine takeH 18 42 (.slice ia n ic) hHeld rfl rfl (by kernel_rfl) (by kernel_rfl) (by kernel_rfl) (fun _ _ _ h => h) (Or.inl ⟨by rfl, fun w hw => by have hw' : w.cell? ⟨g4, 0, none⟩ = some (.slice ia n ic) := (fun hw => HC4.out _ hw) hw; go_simp⟩) ?_
    simp only [Act.put, List.setIfInBounds_toArray, List.set_cons_zero, List.set_cons_succ]
    refine takeH 19 43 (.int .i64 (i : Int)) hHeld rfl rfl (by kernel_rfl) (by kernel_rfl) (by kernel_rfl) (fun _ _ _ h => h) (Or.inl ⟨by rfl, fun w hw => by have hw' : w.cell? ⟨b7, 0, none⟩ = some (.int .i64 (i : Int)) := (fun hw => HCI.out _ hw) hw; go_simp⟩) ?_
    simp only [Act.put, List.setIfInBounds_toArray, List.set_cons_zero, List.set_cons_succ]
    refine takeH 20 44 (.pointer (some ⟨g3, o3, none⟩)) hHeld rfl rfl (by kernel_rfl) (by kernel_rfl) (by kernel_rfl) (fun _ _ _ h => h) (Or.inl ⟨by rfl, fun w _ => run_op rfl (HIX.out w)⟩) ?_
    simp only [Act.put, List.setIfInBounds_toArray, List.set_cons_zero, List.set_cons_succ]
    refine takeH 21 45 (.pointer (some ⟨g3, o3 + 32, none⟩)) hHeld rfl rfl (by kernel_rfl) (by kernel_rfl) (by kernel_rfl) (fun _ _ _ h => h) (Or.inl ⟨by rfl, fun w _ => by go_simp⟩) ?_
    simp only [Act.put, List.setIfInBounds_toArray, List.set_cons_zero, List.set_cons_succ]
    refine takeH 22 46 (.int .i64 x.p) hHeld rfl rfl (by kernel_rfl) (by kernel_rfl) (by kernel_rfl) (fun _ _ _ h => h) (Or.inl ⟨by rfl, fun w hw => by have hw' : w.cell? ⟨g3, (o3 + 32), none⟩ = some (.int .i64 x.p) := (fun hw => rangeAt_p (HRG.out _ hw)) hw; go_simp⟩) ?_
    simp only [Act.put, List.setIfInBounds_toArray, List.set_cons_zero, List.set_cons_succ]
    refine takeH 23 47 (.bool false) hHeld rfl rfl (by kernel_rfl) (by kernel_rfl) (by kernel_rfl) (fun _ _ _ h => h) (Or.inl ⟨by rfl, fun w _ => by go_simp⟩) ?_
    simp only [Act.put, List.setIfInBounds_toArray, List.set_cons_zero, List.set_cons_succ]
    refine takeH 24 48 (.bool false) hHeld rfl rfl (by kernel_rfl) (by kernel_rfl) (by kernel_rfl) (fun _ _ _ h => h) (Or.inl ⟨by rfl, fun w _ => by go_simp⟩) ?_
    simp only [Act.put, List.setIfInBounds_toArray, List.set_cons_zero, List.set_cons_succ]
    refine wpAnyH_done (by kernel_rfl) ?_ _
    refine Only.normal ?_
    obtain ⟨Vd, hVd⟩ : ∃ v, V.drew = v := ⟨_, rfl⟩
    rw [hVd] at hHeld ⊢
    clear hVd
    have HRd := hide (HR.out.on hHeld)
    have HHd := hide hHeld
    have ci : Vd.cell? ⟨b7, 0, none⟩ = some (.int .i64 (i : Int)) := HCI.out _ hHeld
    have fi := HRd.out.c.free 0
    clear hHeld HCI HC4 HRX HRG HIX
    gi_wp2
    have hbut := But.setCell Vd b7 0 (.int .i64 ((i + 1 : Nat) : Int))
    refine ⟨((keepsO_below HHd.out).trans (keepsO_but hbut HRd.out.c)).from _, (KR.below HHd.out).trans (KR.but hbut HRd.out.c (by decide) (by decide)), ?_⟩
    exact HRd.out.put hbut (HRd.out.c.set 0 _)
  case done2 =>
    rintro D V1 hD hR hk
    rw [HN.out] at hR
    have HBV : Hid (Below w3.heap.size w3 V1) := hide (HB6.out.trans (hR.only.below h37 HB6.out.size))
    have HWV := hide (HW3.out.on HBV.out)
    have HMK : Hid (MK [D] V1) := hide (fun E hE => by
      have : E = D := by simpa using hE
      rw [this]
      exact hk)
    have HC7 := hide hR.c
    have h3D : w.heap.size ≤ D := by have := HW3.out.bel.size; have := HB6.out.size; omega
    clear hR hk HSQ hD HB6 HW6 HC6 hb76
    have HRU := hide (fun V (h : IxA V g0 v us rs) => runs_any g0 v us rs V h (by rw [HRM.out]; omega))
    rw [HRR.out, HRM.out] at HRU
    go_wp2_with fail
    refine (HRU.out _ HWV.out.ix).mono ?_
    rintro e V2 ⟨ga, rfl, hga, hla, hb2⟩
    have HA2 := hide hga
    have HLA := hide (Nat.le_trans HBV.out.size hla)
    have HB2 := hide (on_below HBV.out hb2)
    have HC72 := hide (HC7.out.on hb2)
    have HM2 := hide (HMK.out.on hb2)
    clear hga hb2 HC7 HMK HWV HBV hla
    go_wp2_with fail
    refine (HRU.out _ (HW3.out.on HB2.out).ix).mono ?_
    rintro e V3 ⟨gb, rfl, hgb, hlb, hb3⟩
    have HAB : Hid (gb ≠ ga) := hide (by have := HA2.out.lt; omega)
    have HQ : Hid (LQ w3 V3 ga gb m 0 D R) := hide ⟨on_below HB2.out hb3, HM2.out.on hb3, ⟨_, HA2.out.on hb3, by rw [ns_len, HM.out], fun _ _ => rfl⟩, hgb, HLA.out, HAB.out⟩
    have HC73 := hide (HC72.out.on hb3)
    clear hgb hlb hb3 HA2 HLA HB2 HC72 HM2 HAB HRU
    go_upto_region 11 with fail
    refine wp_region_noPanic ?_
    have BD := hide (Below.refl V3.heap.size V3).drew
    refine wp_region_held_drew (S := fun V : World => Below V3.heap.size V3 V) (by kernel_rfl) BD.out (fun hHeld => ?_)
    have HC7 : Hid (∀ W : World, Below V3.heap.size V3 W → W.cell? ⟨b7, 0, none⟩ = some (.int .i64 (n : Int))) := hide (fun W hW => by rw [(HC73.out.on hW).cell]; rfl)
    have HC40 : Hid (∀ W : World, Below V3.heap.size V3 W → W.cell? ⟨g4, 0, none⟩ = some (.slice ia n ic)) := hide (fun W hW => by rw [((HW3.out.on (on_below HQ.out.bel hW)).c4).cell]; rfl)
    have HC41 : Hid (∀ W : World, Below V3.heap.size V3 W → W.cell? ⟨g4, 1, none⟩ = some (.slice ra m rc)) := hide (fun W hW => by rw [((HW3.out.on (on_below HQ.out.bel hW)).c4).cell]; rfl)
    refine takeH 0 55 (.int .i64 (n : Int)) hHeld rfl rfl (by kernel_rfl) (by kernel_rfl) (by kernel_rfl) (fun _ _ _ h => h) (Or.inl ⟨by rfl, fun w hw => by have hw' : w.cell? ⟨b7, 0, none⟩ = some (.int .i64 (n : Int)) := (fun hw => HC7.out _ hw) hw; go_simp⟩) ?_
    simp only [Act.put, List.setIfInBounds_toArray, List.set_cons_zero, List.set_cons_succ]
    refine takeH 1 56 (.pointer (some ⟨g4, 0, none⟩)) hHeld rfl rfl (by kernel_rfl) (by kernel_rfl) (by kernel_rfl) (fun _ _ _ h => h) (Or.inl ⟨by rfl, fun w _ => by go_simp⟩) ?_
    simp only [Act.put, List.setIfInBounds_toArray, List.set_cons_zero, List.set_cons_succ]
    refine takeH 2 57 (.slice ia n ic) hHeld rfl rfl (by kernel_rfl) (by kernel_rfl) (by kernel_rfl) (fun _ _ _ h => h) (Or.inl ⟨by rfl, fun w hw => by have hw' : w.cell? ⟨g4, 0, none⟩ = some (.slice ia n ic) := (fun hw => HC40.out _ hw) hw; go_simp⟩) ?_
    simp only [Act.put, List.setIfInBounds_toArray, List.set_cons_zero, List.set_cons_succ]
    refine takeH 3 58 (.int .i64 (n : Int)) hHeld rfl rfl (by kernel_rfl) (by kernel_rfl) (by kernel_rfl) (fun _ _ _ h => h) (Or.inl ⟨by rfl, fun w _ => by go_simp⟩) ?_
    simp only [Act.put, List.setIfInBounds_toArray, List.set_cons_zero, List.set_cons_succ]
    refine takeH 4 59 (.bool false) hHeld rfl rfl (by kernel_rfl) (by kernel_rfl) (by kernel_rfl) (fun _ _ _ h => h) (Or.inl ⟨by rfl, fun w _ => by go_simp⟩) ?_
    simp only [Act.put, List.setIfInBounds_toArray, List.set_cons_zero, List.set_cons_succ]
    refine takeH 5 60 (.bool false) hHeld rfl rfl (by kernel_rfl) (by kernel_rfl) (by kernel_rfl) (fun _ _ _ h => h) (Or.inl ⟨by rfl, fun w _ => by go_simp⟩) ?_
    simp only [Act.put, List.setIfInBounds_toArray, List.set_cons_zero, List.set_cons_succ]
    refine takeH 6 61 (.pointer (some ⟨g0, 0, none⟩)) hHeld rfl rfl (by kernel_rfl) (by kernel_rfl) (by kernel_rfl) (fun _ _ _ h => h) (Or.inl ⟨by rfl, fun w _ => by go_simp⟩) ?_
    simp only [Act.put, List.setIfInBounds_toArray, List.set_cons_zero, List.set_cons_succ]
    refine takeH 8 63 (.int .i64 (n : Int)) hHeld rfl rfl (by kernel_rfl) (by kernel_rfl) (by kernel_rfl) (fun _ _ _ h => h) (Or.inl ⟨by rfl, fun w hw => by have hw' : w.cell? ⟨b7, 0, none⟩ = some (.int .i64 (n : Int)) := (fun hw => HC7.out _ hw) hw; go_simp⟩) ?_
    simp only [Act.put, List.setIfInBounds_toArray, List.set_cons_zero, List.set_cons_succ]
    refine wpAnyH_ready (rs := [7]) (by kernel_rfl) (by simp) (AllReadyH.cons rfl (fun K hK => ?_) AllReadyH.nil)
    rw [if_pos (by rfl)]
    go_simp
    refine (len_any g0 v us rs _ (HW3.out.on (on_below HQ.out.bel BD.out)).ix (by rw [HCN.out, HN.out]; exact hn9)).mono ?_
    rintro e V5 ⟨rfl, hb5⟩
    have BD5 := hide (on_below BD.out hb5)
    rw [HCN.out, HN.out]
    clear hb5
    refine hK.out _ _ (BD5.out) (fun hHeld => ?_)
    clear hK K
    try simp only [Act.put, List.setIfInBounds_toArray, List.set_cons_zero, List.set_cons_succ]
    refine takeH 9 64 (.bool false) hHeld rfl rfl (by kernel_rfl) (by kernel_rfl) (by kernel_rfl) (fun _ _ _ h => h) (Or.inl ⟨by rfl, fun w _ => by go_simp⟩) ?_
    simp only [Act.put, List.setIfInBounds_toArray, List.set_cons_zero, List.set_cons_succ]
    refine takeH 10 65 (.bool false) hHeld rfl rfl (by kernel_rfl) (by kernel_rfl) (by kernel_rfl) (fun _ _ _ h => h) (Or.inl ⟨by rfl, fun w _ => by go_simp⟩) ?_
    simp only [Act.put, List.setIfInBounds_toArray, List.set_cons_zero, List.set_cons_succ]
    refine takeH 11 66 (.bool false) hHeld rfl rfl (by kernel_rfl) (by kernel_rfl) (by kernel_rfl) (fun _ _ _ h => h) (Or.inl ⟨by rfl, fun w _ => by go_simp⟩) ?_
    simp only [Act.put, List.setIfInBounds_toArray, List.set_cons_zero, List.set_cons_succ]
    refine takeH 12 67 (.slice (some ⟨ga, 0, none⟩) m m) hHeld rfl rfl (by kernel_rfl) (by kernel_rfl) (by kernel_rfl) (fun _ _ _ h => h) (Or.inl ⟨by rfl, fun w _ => by go_simp⟩) ?_
    simp only [Act.put, List.setIfInBounds_toArray, List.set_cons_zero, List.set_cons_succ]
    refine takeH 13 68 (.int .i64 (m : Int)) hHeld rfl rfl (by kernel_rfl) (by kernel_rfl) (by kernel_rfl) (fun _ _ _ h => h) (Or.inl ⟨by rfl, fun w _ => by go_simp⟩) ?_
    simp only [Act.put, List.setIfInBounds_toArray, List.set_cons_zero, List.set_cons_succ]
    refine takeH 14 69 (.pointer (some ⟨g4, 1, none⟩)) hHeld rfl rfl (by kernel_rfl) (by kernel_rfl) (by kernel_rfl) (fun _ _ _ h => h) (Or.inl ⟨by rfl, fun w _ => by go_simp⟩) ?_
    simp only [Act.put, List.setIfInBounds_toArray, List.set_cons_zero, List.set_cons_succ]
    refine takeH 15 70 (.slice ra m rc) hHeld rfl rfl (by kernel_rfl) (by kernel_rfl) (by kernel_rfl) (fun _ _ _ h => h) (Or.inl ⟨by rfl, fun w hw => by have hw' : w.cell? ⟨g4, 1, none⟩ = some (.slice ra m rc) := (fun hw => HC41.out _ hw) hw; go_simp⟩) ?_
    simp only [Act.put, List.setIfInBounds_toArray, List.set_cons_zero, List.set_cons_succ]
    refine takeH 16 71 (.int .i64 (m : Int)) hHeld rfl rfl (by kernel_rfl) (by kernel_rfl) (by kernel_rfl) (fun _ _ _ h => h) (Or.inl ⟨by rfl, fun w _ => by go_simp⟩) ?_
    simp only [Act.put, List.setIfInBounds_toArray, List.set_cons_zero, List.set_cons_succ]
    refine takeH 17 72 (.bool false) hHeld rfl rfl (by kernel_rfl) (by kernel_rfl) (by kernel_rfl) (fun _ _ _ h => h) (Or.inl ⟨by rfl, fun w _ => by go_simp⟩) ?_
    simp only [Act.put, List.setIfInBounds_toArray, List.set_cons_zero, List.set_cons_succ]
    refine takeH 18 73 (.bool false) hHeld rfl rfl (by kernel_rfl) (by kernel_rfl) (by kernel_rfl) (fun _ _ _ h => h) (Or.inl ⟨by rfl, fun w _ => by go_simp⟩) ?_
    simp only [Act.put, List.setIfInBounds_toArray, List.set_cons_zero, List.set_cons_succ]
    refine takeH 19 74 (.bool false) hHeld rfl rfl (by kernel_rfl) (by kernel_rfl) (by kernel_rfl) (fun _ _ _ h => h) (Or.inl ⟨by rfl, fun w _ => by go_simp⟩) ?_
    simp only [Act.put, List.setIfInBounds_toArray, List.set_cons_zero, List.set_cons_succ]
    refine takeH 20 75 (.slice (some ⟨gb, 0, none⟩) m m) hHeld rfl rfl (by kernel_rfl) (by kernel_rfl) (by kernel_rfl) (fun _ _ _ h => h) (Or.inl ⟨by rfl, fun w _ => by go_simp⟩) ?_
    simp only [Act.put, List.setIfInBounds_toArray, List.set_cons_zero, List.set_cons_succ]
    refine takeH 21 76 (.int .i64 (m : Int)) hHeld rfl rfl (by kernel_rfl) (by kernel_rfl) (by kernel_rfl) (fun _ _ _ h => h) (Or.inl ⟨by rfl, fun w _ => by go_simp⟩) ?_
    simp only [Act.put, List.setIfInBounds_toArray, List.set_cons_zero, List.set_cons_succ]
    refine takeH 22 77 (.slice (some ⟨ga, 0, none⟩) m m) hHeld rfl rfl (by kernel_rfl) (by kernel_rfl) (by kernel_rfl) (fun _ _ _ h => h) (Or.inl ⟨by rfl, fun w _ => by go_simp⟩) ?_
    simp only [Act.put, List.setIfInBounds_toArray, List.set_cons_zero, List.set_cons_succ]
    refine takeH 23 78 (.int .i64 (m : Int)) hHeld rfl rfl (by kernel_rfl) (by kernel_rfl) (by kernel_rfl) (fun _ _ _ h => h) (Or.inl ⟨by rfl, fun w _ => by go_simp⟩) ?_
    simp only [Act.put, List.setIfInBounds_toArray, List.set_cons_zero, List.set_cons_succ]
    refine takeH 24 79 (.bool false) hHeld rfl rfl (by kernel_rfl) (by kernel_rfl) (by kernel_rfl) (fun _ _ _ h => h) (Or.inl ⟨by rfl, fun w _ => by go_simp⟩) ?_
    simp only [Act.put, List.setIfInBounds_toArray, List.set_cons_zero, List.set_cons_succ]
    refine takeH 25 80 (.bool false) hHeld rfl rfl (by kernel_rfl) (by kernel_rfl) (by kernel_rfl) (fun _ _ _ h => h) (Or.inl ⟨by rfl, fun w _ => by go_simp⟩) ?_
    simp only [Act.put, List.setIfInBounds_toArray, List.set_cons_zero, List.set_cons_succ]
    refine wpAnyH_done (by kernel_rfl) ?_ _
    refine NoPanic.normal ?_
    have HQ5 := hide (HQ.out.on BD5.out)
    clear hHeld HC7 HC40 HC41 HQ BD BD5 HC73
    go_wp2_with fail
    go_loopw [12] (fun s12 wr => ∃ (i : Nat), i ≤ m ∧ s12 = .int .i64 i ∧ Hid (LQ w3 wr ga gb m i D R)) (fun s12 _ => m - (intOf s12).toNat)
    case atStart => exact ⟨0, Nat.zero_le _, rfl, HQ5⟩
    case round =>
      clear HQ5
      obtain ⟨i, hi, rfl, HQ⟩ := hrel
      by_cases hlt : i < m
      · have hlt' : (i : Int) < (m : Int) := by omega
        have hiR : i < R.length := by rw [HM.out]; exact hlt
        obtain ⟨r, hr⟩ : ∃ r : Int, (R.getD i 0 : Int) = r := ⟨_, rfl⟩
        have hix := fun W => n_at ga m m i (i : Int) rfl hlt W
        have HIX1 := hide hix
        have HIX2 := hide (fun W => n_at gb m m i (i : Int) rfl hlt W)
        obtain ⟨gr, or, hir, hrr⟩ := (HW3.out.on HQ.out.bel).dx.run hiR
        rw [hr] at hrr
        have HIX3 := hide hir
        have HCA : Hid (∀ W : World, Below wr.heap.size wr W → W.cell? ⟨ga, i, none⟩ = some (.int .i64 r)) := hide (fun W hW => by rw [(HQ.out.on hW).ca hiR, hr])
        have HCR : Hid (∀ W : World, Below w3.heap.size w3 W → W.cell? ⟨gr, or, none⟩ = some (.int .i64 r)) := hide (fun W hW => hrr W (HW3.out.on hW).dx)
        have HC4 : Hid (∀ W : World, Below w3.heap.size w3 W → W.cell? ⟨g4, 1, none⟩ = some (.slice ra m rc)) := hide (fun W hW => by rw [((HW3.out.on hW).c4).cell]; rfl)
        have HRI := hide hr
        clear hir hrr hr
        go_upto_region 16 with fail
        refine wp_region_noPanic ?_
        have BD := hide (Below.refl wr.heap.size wr).drew
        refine wp_region_held_drew (S := fun V : World => Below wr.heap.size wr V) (by kernel_rfl) BD.out (fun hHeld => ?_)
        refine takeH 0 87 (.slice (some ⟨ga, 0, none⟩) m m) hHeld rfl rfl (by kernel_rfl) (by kernel_rfl) (by kernel_rfl) (fun _ _ _ h => h) (Or.inl ⟨by rfl, fun w _ => by go_simp⟩) ?_
        simp only [Act.put, List.setIfInBounds_toArray, List.set_cons_zero, List.set_cons_succ]
        refine takeH 1 88 (.int .i64 (i : Int)) hHeld rfl rfl (by kernel_rfl) (by kernel_rfl) (by kernel_rfl) (fun _ _ _ h => h) (Or.inl ⟨by rfl, fun w _ => by go_simp⟩) ?_
        simp only [Act.put, List.setIfInBounds_toArray, List.set_cons_zero, List.set_cons_succ]
        refine takeH 2 89 (.pointer (some ⟨ga, i, none⟩)) hHeld rfl rfl (by kernel_rfl) (by kernel_rfl) (by kernel_rfl) (fun _ _ _ h => h) (Or.inl ⟨by rfl, fun w _ => run_op rfl (HIX1.out w)⟩) ?_
        simp only [Act.put, List.setIfInBounds_toArray, List.set_cons_zero, List.set_cons_succ]
        refine takeH 3 90 (.int .i64 r) hHeld rfl rfl (by kernel_rfl) (by kernel_rfl) (by kernel_rfl) (fun _ _ _ h => h) (Or.inl ⟨by rfl, fun w hw => by have hw' : w.cell? ⟨ga, i, none⟩ = some (.int .i64 r) := (fun hw => HCA.out _ hw) hw; go_simp⟩) ?_
        simp only [Act.put, List.setIfInBounds_toArray, List.set_cons_zero, List.set_cons_succ]
        refine takeH 4 91 (.pointer (some ⟨g4, 1, none⟩)) hHeld rfl rfl (by kernel_rfl) (by kernel_rfl) (by kernel_rfl) (fun _ _ _ h => h) (Or.inl ⟨by rfl, fun w _ => by go_simp⟩) ?_
        simp only [Act.put, List.setIfInBounds_toArray, List.set_cons_zero, List.set_cons_succ]
        refine takeH 5 92 (.slice ra m rc) hHeld rfl rfl (by kernel_rfl) (by kernel_rfl) (by kernel_rfl) (fun _ _ _ h => h) (Or.inl ⟨by rfl, fun w hw => by have hw' : w.cell? ⟨g4, 1, none⟩ = some (.slice ra m rc) := (fun hw => HC4.out _ (on_below HQ.out.bel hw)) hw; go_simp⟩) ?_
        simp only [Act.put, List.setIfInBounds_toArray, List.set_cons_zero, List.set_cons_succ]
        refine takeH 6 93 (.int .i64 (i : Int)) hHeld rfl rfl (by kernel_rfl) (by kernel_rfl) (by kernel_rfl) (fun _ _ _ h => h) (Or.inl ⟨by rfl, fun w _ => by go_simp⟩) ?_
        simp only [Act.put, List.setIfInBounds_toArray, List.set_cons_zero, List.set_cons_succ]
        refine takeH 7 94 (.pointer (some ⟨gr, or, none⟩)) hHeld rfl rfl (by kernel_rfl) (by kernel_rfl) (by kernel_rfl) (fun _ _ _ h => h) (Or.inl ⟨by rfl, fun w _ => run_op rfl (HIX3.out w)⟩) ?_
        simp only [Act.put, List.setIfInBounds_toArray, List.set_cons_zero, List.set_cons_succ]
        refine takeH 8 95 (.int .i64 r) hHeld rfl rfl (by kernel_rfl) (by kernel_rfl) (by kernel_rfl) (fun _ _ _ h => h) (Or.inl ⟨by rfl, fun w hw => by have hw' : w.cell? ⟨gr, or, none⟩ = some (.int .i64 r) := (fun hw => HCR.out _ (on_below HQ.out.bel hw)) hw; go_simp⟩) ?_
        simp only [Act.put, List.setIfInBounds_toArray, List.set_cons_zero, List.set_cons_succ]
        refine takeH 9 96 (.bool false) hHeld rfl rfl (by kernel_rfl) (by kernel_rfl) (by kernel_rfl) (fun _ _ _ h => h) (Or.inl ⟨by rfl, fun w _ => by go_simp⟩) ?_
        simp only [Act.put, List.setIfInBounds_toArray, List.set_cons_zero, List.set_cons_succ]
        refine wpAnyH_done (by kernel_rfl) ?_ _
        refine NoPanic.normal ?_
        have HQ2 := hide (HQ.out.on BD.out)
        have ca := HCA.out _ BD.out
        clear hHeld HQ HCA BD
        revert HQ2 ca
        generalize wr.drew = V6
        intro HQ2 ca
        obtain ⟨cs, hcs, _, _⟩ := HQ2.out.a
        have fa := hcs.free i
        clear hcs
        go_upto_region 19 with fail
        have HQ3 := hide (HQ2.out.put (.int .i64 (-1)))
        clear HQ2 ca fa
        revert HQ3
        generalize V6.setCell ⟨ga, i, none⟩ (.int .i64 (-1)) = V7
        intro HQ3
        have HCB : Hid (∀ W : World, Below V7.heap.size V7 W → W.cell? ⟨gb, i, none⟩ = some (.int .i64 r)) := hide (fun W hW => by rw [(HQ3.out.on hW).cb hiR, HRI.out])
        refine wp_region_noPanic ?_
        have BD := hide (Below.refl V7.heap.size V7).drew
        refine wp_region_held_drew (S := fun V : World => Below V7.heap.size V7 V) (by kernel_rfl) BD.out (fun hHeld => ?_)
        refine takeH 0 100 (.slice (some ⟨gb, 0, none⟩) m m) hHeld rfl rfl (by kernel_rfl) (by kernel_rfl) (by kernel_rfl) (fun _ _ _ h => h) (Or.inl ⟨by rfl, fun w _ => by go_simp⟩) ?_
        simp only [Act.put, List.setIfInBounds_toArray, List.set_cons_zero, List.set_cons_succ]
        refine takeH 1 101 (.int .i64 (i : Int)) hHeld rfl rfl (by kernel_rfl) (by kernel_rfl) (by kernel_rfl) (fun _ _ _ h => h) (Or.inl ⟨by rfl, fun w _ => by go_simp⟩) ?_
        simp only [Act.put, List.setIfInBounds_toArray, List.set_cons_zero, List.set_cons_succ]
        refine takeH 2 102 (.pointer (some ⟨gb, i, none⟩)) hHeld rfl rfl (by kernel_rfl) (by kernel_rfl) (by kernel_rfl) (fun _ _ _ h => h) (Or.inl ⟨by rfl, fun w _ => run_op rfl (HIX2.out w)⟩) ?_
        simp only [Act.put, List.setIfInBounds_toArray, List.set_cons_zero, List.set_cons_succ]
        refine takeH 3 103 (.int .i64 r) hHeld rfl rfl (by kernel_rfl) (by kernel_rfl) (by kernel_rfl) (fun _ _ _ h => h) (Or.inl ⟨by rfl, fun w hw => by have hw' : w.cell? ⟨gb, i, none⟩ = some (.int .i64 r) := (fun hw => HCB.out _ hw) hw; go_simp⟩) ?_
        simp only [Act.put, List.setIfInBounds_toArray, List.set_cons_zero, List.set_cons_succ]
        refine takeH 4 104 (.pointer (some ⟨g4, 1, none⟩)) hHeld rfl rfl (by kernel_rfl) (by kernel_rfl) (by kernel_rfl) (fun _ _ _ h => h) (Or.inl ⟨by rfl, fun w _ => by go_simp⟩) ?_
        simp only [Act.put, List.setIfInBounds_toArray, List.set_cons_zero, List.set_cons_succ]
        refine takeH 5 105 (.slice ra m rc) hHeld rfl rfl (by kernel_rfl) (by kernel_rfl) (by kernel_rfl) (fun _ _ _ h => h) (Or.inl ⟨by rfl, fun w hw => by have hw' : w.cell? ⟨g4, 1, none⟩ = some (.slice ra m rc) := (fun hw => HC4.out _ (on_below HQ3.out.bel hw)) hw; go_simp⟩) ?_
        simp only [Act.put, List.setIfInBounds_toArray, List.set_cons_zero, List.set_cons_succ]
        refine takeH 6 106 (.int .i64 (i : Int)) hHeld rfl rfl (by kernel_rfl) (by kernel_rfl) (by kernel_rfl) (fun _ _ _ h => h) (Or.inl ⟨by rfl, fun w _ => by go_simp⟩) ?_
        simp only [Act.put, List.setIfInBounds_toArray, List.set_cons_zero, List.set_cons_succ]
        refine takeH 7 107 (.pointer (some ⟨gr, or, none⟩)) hHeld rfl rfl (by kernel_rfl) (by kernel_rfl) (by kernel_rfl) (fun _ _ _ h => h) (Or.inl ⟨by rfl, fun w _ => run_op rfl (HIX3.out w)⟩) ?_
        simp only [Act.put, List.setIfInBounds_toArray, List.set_cons_zero, List.set_cons_succ]
        refine takeH 8 108 (.int .i64 r) hHeld rfl rfl (by kernel_rfl) (by kernel_rfl) (by kernel_rfl) (fun _ _ _ h => h) (Or.inl ⟨by rfl, fun w hw => by have hw' : w.cell? ⟨gr, or, none⟩ = some (.int .i64 r) := (fun hw => HCR.out _ (on_below HQ3.out.bel hw)) hw; go_simp⟩) ?_
        simp only [Act.put, List.setIfInBounds_toArray, List.set_cons_zero, List.set_cons_succ]
        refine takeH 9 109 (.bool false) hHeld rfl rfl (by kernel_rfl) (by kernel_rfl) (by kernel_rfl) (fun _ _ _ h => h) (Or.inl ⟨by rfl, fun w _ => by go_simp⟩) ?_
        simp only [Act.put, List.setIfInBounds_toArray, List.set_cons_zero, List.set_cons_succ]
        refine wpAnyH_done (by kernel_rfl) ?_ _
        refine NoPanic.normal ?_
        have HQ4 := hide (HQ3.out.on BD.out)
        clear hHeld HQ3 HCB HCR HC4 BD
        go_wp2
        exact ⟨⟨i + 1, by omega, by go_num, HQ4⟩, by simp [intOf]; omega⟩
      · obtain rfl : i = m := by omega
        have hlt' : ¬ (i : Int) < (i : Int) := by omega
        have HWR := hide (HW3.out.on HQ.out.bel)
        obtain ⟨p, hp⟩ : ∃ p, (fnd rs d).getD 0 = p := ⟨_, rfl⟩
        obtain ⟨s, hs⟩ : ∃ s, (fnd rs d).isSome = s := ⟨_, rfl⟩
        have HFO : Hid (fO (fnd rs d) = .tuple #[.int .i64 p, .bool s]) := hide (by unfold fO; rw [hp, hs])
        have HMR := hide HQ.out.mark
        have HBR := hide HQ.out.bel
        clear hp hs HQ
        go_wp2_with (refine step_loadA wideD rfl rfl HWR.out.c5 (by rw [u8s_length, HL.out]) ?_)
        refine (find_any g0 v us rs d wr HWR.out.ix.hd HWR.out.ix.rv HOK.out.sk HL.out HB.out (fun r hr => by have := cnt_le hr; have := HCN.out; have := HN.out; omega) (by rw [HRM.out]; omega)).mono ?_
        rintro e V8 ⟨rfl, hb8⟩
        rw [HFO.out]
        have HB8 := hide (on_below HBR.out hb8)
        have HW8 := hide (HWR.out.on hb8)
        have HM8 := hide (HMR.out.on hb8)
        clear hb8 HWR HMR HBR
        go_wp2_with (first | refine step_loadA wX rfl rfl HW8.out.c4 rfl ?_ | refine step_loadA wideD rfl rfl HW8.out.c5 (by rw [u8s_length, HL.out]) ?_)
        have HFI := hide (findD_any (.slice ia n ic) (.slice ra i rc) L R d V8 HW8.out.dx HL.out HB.out (by rw [HN.out]; exact hn9))
        rw [HFD.out, HFO.out] at HFI
        refine HFI.out.mono ?_
        rintro e V9 ⟨rfl, hb9⟩
        have HB9 := hide (on_below HB8.out hb9)
        have HW9 := hide (HW8.out.on hb9)
        have HM9 := hide (HM8.out.on hb9)
        have cR : V9.cell? ⟨r6, 0, none⟩ = some (.bool false) := by rw [HW9.out.r.cell]; rfl
        have fR := HW9.out.r.free 0
        clear hb9 HW8 HM8 HB8 HFI
        go_wp2_with fail
        have hbut := But.setCell V9 r6 0 (.bool true)
        have hB6 : Below w.heap.size w (V9.setCell ⟨r6, 0, none⟩ (.bool true)) := HW9.out.bel.trans (hbut.below HW9.out.lr)
        have hR6 : Blk (V9.setCell ⟨r6, 0, none⟩ (.bool true)) r6 4 [.bool true] := HW9.out.r.set 0 _
        have hM6 : MK [D] (V9.setCell ⟨r6, 0, none⟩ (.bool true)) := HM9.out.only (OnlyB.but (Below.refl _ _) hbut) HW9.out.r
        exact (leaves_marks (B := w.heap.size) (J := fun V => Below w.heap.size w V ∧ Blk V r6 4 [.bool true]) (fun V D h hB hD => ⟨h.1.trans (belowK_b (w := w) (Nat.le_refl _) _ D _ (.deferred none) hB hD rfl rfl), by
            unfold Blk
            rw [World.putObj_heap_other (fun e => by
              have h2 := h.2
              rw [e] at h2
              unfold Blk at h2
              rw [hD] at h2
              cases h2)]
            exact h.2⟩)
          (fun V h => ⟨.bool true, by
            have hc : V.cell? ⟨r6, 0, none⟩ = some (.bool true) := by rw [h.2.cell]; rfl
            simp [results, Try.f8, go_sem, hc], rfl, h.1⟩) [D] _ (by simp) (fun E hE => by simp at hE; omega) hM6 ⟨hB6, hR6⟩)

end Go.Proofs.Ytabpfbankinojaa
