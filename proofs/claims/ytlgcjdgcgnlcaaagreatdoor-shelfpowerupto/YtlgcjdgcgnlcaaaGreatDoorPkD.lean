/-
  Texts one behind the other: Kqh Kqi Kqj Kqm Kqn.
-/
import Derived.Test.YtlgcjdgcgnlcaaaGreatDoorPkC
import Derived.Test.YtlgcjdgcgnlcaaaGreatDoorKql
import Derived.Test.YtlgcjdgcgnlcaaaGreatDoorPkB

/-
  The document's do: a file renamed.
-/
namespace Go.Proofs.YtlgcjdgcgnlcaaaGreatDoor
open Go.RowKit
set_option linter.unusedVariables false

section
variable (r s : Nat) (rs : List Rw) (R : Rm) (n t : ByteArray) (w : World) (h : RkAt w r s rs R) (hn : nmB n = true) (hnt' : nmB t = true) (hnt : n ≠ t) (hwt : wt rs + 1 ≤ 1099511000000) (xs : List Int) (hf : play rs n = some xs) (hv : BV w (.slice none 0 0) [])
include h hn hnt' hnt hwt hf hv
set_option maxRecDepth 100000 in
set_option maxHeartbeats 4000000 in
theorem doR_rn0 (ht : play rs t = none) : Calls Tryz.prog 63 #[.pointer (some ⟨r, 0, none⟩), .agg (rwC 5 n (.slice none 0 0) 0 t).toArray] w fun e w' => e = .returned (.tuple #[]) ∧ RoR w w' r s R (rs ++ [rRn n t]) (.slice none 0 0) := by
  obtain ⟨A, B0, hAB0, hA, hlt, hB⟩ := h.fls.split n
  obtain ⟨I, hI⟩ : ∃ I, A.length = I := ⟨_, rfl⟩
  obtain ⟨B, hBB, hB2⟩ : ∃ B, B0 = (n, xs) :: B ∧ ∀ b ∈ B, blt n b.1 = true := by
    rcases hB with ⟨h1, _⟩ | ⟨ys, B', h1, h2, h3⟩
    · rw [hf] at h1; cases h1
    · rw [hf] at h1
      injection h1 with h1
      subst h1
      exact ⟨B', h2, h3⟩
  subst hBB
  have hAB := hAB0
  have hxs : fl (play rs) n = xs := by simp [fl, hf]
  have HLR : Hid (Lraw s (play rs) (rRn n t)) := hide ⟨.inr (.inr (.inr (.inr ⟨n, t, xs, rfl, hn, hnt', hf, hnt⟩))), fun h2 => by cases h2⟩
  have hF2 : FL (upd (play rs) n none) (A ++ B) := by
    have := h.fls
    rw [hAB] at this
    exact this.turn hlt hB2
  obtain ⟨A2, B3, hAB3, hA2, hlt2, hB3⟩ := hF2.split t
  obtain ⟨J, hJ⟩ : ∃ J, A2.length = J := ⟨_, rfl⟩
  have htf : upd (play rs) n none t = play rs t := upd_ne _ _ (Ne.symm hnt)
  rw [htf] at hB3
  obtain ⟨B2, hBB2, hB4⟩ : ∃ B2, B3 = B2 ∧ ∀ b ∈ B2, blt t b.1 = true := by
    rcases hB3 with ⟨_, h2⟩ | ⟨ys, B', h1, _⟩
    · exact ⟨_, rfl, h2⟩
    · rw [ht] at h1; cases h1
  subst hBB2
  have HFL : Hid (FL (doR (play rs) (rRn n t)) ((A2 ++ [(t, xs)]) ++ B3)) := hide (by
    have h3 := hF2
    rw [hAB3] at h3
    have h4 := h3.put hlt2 hB4 xs
    rw [ren_upd _ hnt] at h4
    rw [do_rn, hxs, List.append_assoc]
    exact h4)
  have hlen : (A ++ B).length = (A2 ++ B3).length := by rw [hAB3]
  have HLN : Hid (((A2 ++ [(t, xs)]) ++ B3).length ≤ rs.length + 1) := hide (by
    have := h.few
    rw [hAB] at this
    simp at this hlen ⊢
    omega)
  have HLA2 : Hid ((A ++ B).length ≤ 1099511000000) := hide (by have h1 := h.few; rw [hAB] at h1; have h2 := len_wt rs; simp at h1 ⊢; omega)
  have HFD2 : Hid (∀ (fv : Value) (W : World), FkAt W r s fv R.qv (A ++ B) → Calls Tryz.prog 70 #[.pointer (some ⟨r, 0, none⟩), .string t] W fun e w' => e = .returned (.tuple #[.int .i64 (J : Int), .bool false]) ∧ Below W.heap.size W w') := hide (fun fv W hW => by
    have := find_any r s fv R.qv (A ++ B) (upd (play rs) n none) t W hW hF2 HLA2.out
    rw [← hA2, hJ, htf, ht] at this
    exact this)
  have HAB2 := hide hAB3
  have HJ := hide hJ
  clear hB hB2 hn hAB0 hxs hF2 hAB3 hA2 hlt2 hB3 hJ htf hB4 hlen hnt'
  obtain ⟨fa, fc, hfe⟩ := row_slice h.fk.row
  have HH := hide h
  have HL : Hid (R.l.length ≤ 1099511000000) := hide (by have h1 := h.few; have h2 := len_wt rs; omega)
  have hrl : R.qs.length = rs.length := by rw [← h.raw]; simp
  have HRL : Hid (R.qs.length ≤ 1099511000000) := hide (by have h2 := len_wt rs; omega)
  clear hrl
  have HFE := hide hfe
  have HAB := hide hAB
  have HA := hide hA
  have HLTA := hide hlt
  have HV := hide hv
  have hfind : ∀ (W : World), FkAt W r s R.fv R.qv R.l → Calls Tryz.prog 70 #[.pointer (some ⟨r, 0, none⟩), .string n] W fun e w' => e = .returned (.tuple #[.int .i64 (I : Int), .bool true]) ∧ Below W.heap.size W w' := fun W hW => by
    have := find_any r s R.fv R.qv R.l (play rs) n W hW h.fls HL.out
    rw [← hA, hI, hf] at this
    exact this
  have HFD := hide hfind
  clear h hAB hA hlt hv hfe hfind hwt
  go_enter Tryz.func63, Tryz.ntmps63
  go_wp2_with (refine step_box (cs := rwC 5 n (.slice none 0 0) 0 t) rfl rfl ?_)
  intro w1 g3 hg3 hle3 hb1
  have D1 : Hid (DsR w w1 r s R R.fv R.l (rRn n t) (Value.slice none 0 0) g3) := hide (HH.out.ds hb1 hg3 hle3)
  have c1 : w1.cell? ⟨g3, 1, none⟩ = some (.string n) := D1.out.r1
  clear hg3 hle3 hb1
  go_upto_region 12 with (go_at_call 70; refine (HFD.out _ D1.out.fk).mono ?_; rintro e w2 ⟨rfl, hb2⟩; have D2 := hide (D1.out.below hb2); have c0 : w2.cell? ⟨g3, 0, none⟩ = some (.int .i64 5) := D2.out.r0; clear c1 D1 hb2)
  clear HFD
  have D2' := D2
  rw [HAB.out] at D2'
  obtain ⟨g, cap, hfv, hcells⟩ := D2'.out.at'
  have HFV := hide hfv
  obtain ⟨L, hL⟩ : ∃ L, (A ++ (n, xs) :: B).length = L := ⟨_, rfl⟩
  rw [hL] at hfv
  have HIX : Hid (∀ z : World, (Instr.indexAt 104 (.slice (some ⟨g, 0, none⟩) L cap) (.int .i64 (I : Int))).run Tryz.prog z = .ok (.pointer (some ⟨g, I * 2, none⟩)) z) := hide (fun z => vw_at rFi g L cap I (by rw [← hL, ← hI]; simp) z)
  have HC1 : Hid (∀ z : World, Below w2.heap.size w2 z → z.cell? ⟨r, 1, none⟩ = some (.slice (some ⟨g, 0, none⟩) L cap)) := hide (fun z hz => by rw [← hfv]; exact (D2.out.below hz).c1)
  have HCB : Hid (∀ z : World, Below w2.heap.size w2 z → z.cell? ⟨g, I * 2 + 1, none⟩ = some (.string (str xs))) := hide (fun z hz => by rw [← hI]; exact (hcells z hz).2.1)
  have HFZ : Hid (∀ z : World, Below w2.heap.size w2 z → z.frozen? ⟨g, I * 2 + 1, none⟩ = false) := hide (fun z hz => by rw [← hI]; exact (hcells z hz).2.2.1)
  have HRG : Hid (∀ z : World, Below w2.heap.size w2 z → z.rangeAt g (I * 2) [.string n, .string (str xs)]) := hide (fun z hz => by rw [← hI]; exact (hcells z hz).2.2.2)
  have HLL := hide hL
  have HII := hide hI
  clear hfv hcells hL c0 hI
  obtain ⟨vA, hto, hvt⟩ := (Vw.of_row D2'.out.fk.row).to rFi (k := I) (by rw [← HII.out]; simp)
  obtain ⟨vB, hfr, hvf⟩ := (Vw.of_row D2'.out.fk.row).from rFi (k := I + 1) (by rw [← HII.out]; simp)
  rw [HFV.out, HLL.out] at hto hfr
  have HTO := hide hto
  have hfr' : ∀ W : World, (Instr.slice 104 (.slice (some ⟨g, 0, none⟩) L cap) (some (.int .i64 ((I : Int) + 1))) none none).run Tryz.prog W = .ok vB W := fun W => by have := hfr W; push_cast at this; exact this
  have HFR := hide hfr'
  have HIB : Hid ((I : Int) + 1 ≤ 1099511000001) := hide (by have h1 := HL.out; rw [HAB.out, List.length_append] at h1; have h2 := HII.out; omega)
  have c1 := HC1.out _ (Below.refl _ _)
  have hix := HIX.out
  clear hto hfr hfr'
  go_wp2_with (first | (refine step_loadR wFi rfl rfl [.string n, .string (str xs)] (HRG.out _ (Below.refl _ _)) rfl ?_) | (refine step_alloc zFi rfl ?_))
  intro w3 g7 hg7 hle7 hb3
  go_wp2_with (refine step_storeA wFi rfl rfl rfl hg7 rfl (One.fi _ _) rfl ?_)
  intro w4 hg7' hbut4
  have Y4 := hide (hb3.trans (hbut4.below hle7))
  have G7 := hide hg7'
  have L7 := hide hle7
  have HVT : Hid (∀ z : World, Below w4.heap.size w4 z → Vw z 135 2 vA A.length (filC A)) := hide (fun z hz => by
    have hz2 := Y4.out.trans (hz.mono Y4.out.size)
    have := hvt z (Vw.of_row (D2'.out.below hz2).fk.row)
    rw [← filC_take, ← HII.out, List.take_left' rfl] at this
    exact this)
  have HVF : Hid (∀ z : World, Below w4.heap.size w4 z → Vw z 135 2 vB B.length (filC B)) := hide (fun z hz => by
    have hz2 := Y4.out.trans (hz.mono Y4.out.size)
    have := hvf z (Vw.of_row (D2'.out.below hz2).fk.row)
    rw [← filC_drop, ← HII.out] at this
    have e1 : (A ++ (n, xs) :: B).drop (A.length + 1) = B := by rw [← List.drop_drop, List.drop_left' rfl]; rfl
    have e2 : (A ++ (n, xs) :: B).length - (A.length + 1) = B.length := by simp; omega
    rw [e1, e2] at this
    exact this)
  clear hvt hvf hg7 hg7' hle7 hb3 hbut4 c1
  go_wp2_with fail
  refine wp_region_noPanic ?_
  refine wp_region_U (q := 19) (S := fun z : World => Below w4.heap.size w4 z) (by kernel_rfl) ?_
  have Z0 := hide ((Below.refl w4.heap.size w4).drew)
  have hHeld := Z0.out
  have HC14 : Hid (∀ z : World, Below w4.heap.size w4 z → z.cell? ⟨r, 1, none⟩ = some (.slice (some ⟨g, 0, none⟩) L cap)) := hide (fun z hz => HC1.out z (Y4.out.trans (hz.mono Y4.out.size)))
  obtain ⟨f1a, f1b⟩ := wrapN ((I : Int) + 1) (by omega) (by have := HIB.out; omega)
  refine takeU 19 0 97 (.pointer (some ⟨r, 0, none⟩)) hHeld rfl rfl (by kernel_rfl) (by kernel_rfl) (by kernel_rfl) (by kernel_rfl) (by kernel_rfl) (by kernel_rfl) (fun _ _ _ h => h) (Or.inl ⟨by rfl, fun w _ => by go_simp⟩) ?_
  simp only [Act.put, List.setIfInBounds_toArray, List.set_cons_zero, List.set_cons_succ]
  refine takeU 19 2 99 (.pointer (some ⟨r, 0, none⟩)) hHeld rfl rfl (by kernel_rfl) (by kernel_rfl) (by kernel_rfl) (by kernel_rfl) (by kernel_rfl) (by kernel_rfl) (fun _ _ _ h => h) (Or.inl ⟨by rfl, fun w _ => by go_simp⟩) ?_
  simp only [Act.put, List.setIfInBounds_toArray, List.set_cons_zero, List.set_cons_succ]
  refine takeU 19 3 100 (.pointer (some ⟨r, 0, none⟩)) hHeld rfl rfl (by kernel_rfl) (by kernel_rfl) (by kernel_rfl) (by kernel_rfl) (by kernel_rfl) (by kernel_rfl) (fun _ _ _ h => h) (Or.inl ⟨by rfl, fun w _ => by go_simp⟩) ?_
  simp only [Act.put, List.setIfInBounds_toArray, List.set_cons_zero, List.set_cons_succ]
  refine takeU 19 4 101 (.pointer (some ⟨r, 1, none⟩)) hHeld rfl rfl (by kernel_rfl) (by kernel_rfl) (by kernel_rfl) (by kernel_rfl) (by kernel_rfl) (by kernel_rfl) (fun _ _ _ h => h) (Or.inl ⟨by rfl, fun w _ => by go_simp⟩) ?_
  simp only [Act.put, List.setIfInBounds_toArray, List.set_cons_zero, List.set_cons_succ]
  refine takeU 19 5 102 (.slice (some ⟨g, 0, none⟩) L cap) hHeld rfl rfl (by kernel_rfl) (by kernel_rfl) (by kernel_rfl) (by kernel_rfl) (by kernel_rfl) (by kernel_rfl) (fun _ _ _ h => h) (Or.inl ⟨by rfl, fun w hw => by have hw' : w.cell? ⟨r, 1, none⟩ = some (.slice (some ⟨g, 0, none⟩) L cap) := (fun hw => HC14.out _ hw) hw; go_simp⟩) ?_
  simp only [Act.put, List.setIfInBounds_toArray, List.set_cons_zero, List.set_cons_succ]
  refine takeU 19 6 103 (.int .i64 (I : Int)) hHeld rfl rfl (by kernel_rfl) (by kernel_rfl) (by kernel_rfl) (by kernel_rfl) (by kernel_rfl) (by kernel_rfl) (fun _ _ _ h => h) (Or.inl ⟨by rfl, fun w _ => by go_simp⟩) ?_
  simp only [Act.put, List.setIfInBounds_toArray, List.set_cons_zero, List.set_cons_succ]
  refine takeU 19 7 104 (vA) hHeld rfl rfl (by kernel_rfl) (by kernel_rfl) (by kernel_rfl) (by kernel_rfl) (by kernel_rfl) (by kernel_rfl) (fun _ _ _ h => h) (Or.inl ⟨by rfl, fun w h => run_op rfl (HTO.out w)⟩) ?_
  simp only [Act.put, List.setIfInBounds_toArray, List.set_cons_zero, List.set_cons_succ]
  refine takeU 19 9 106 (.pointer (some ⟨r, 0, none⟩)) hHeld rfl rfl (by kernel_rfl) (by kernel_rfl) (by kernel_rfl) (by kernel_rfl) (by kernel_rfl) (by kernel_rfl) (fun _ _ _ h => h) (Or.inl ⟨by rfl, fun w _ => by go_simp⟩) ?_
  simp only [Act.put, List.setIfInBounds_toArray, List.set_cons_zero, List.set_cons_succ]
  refine takeU 19 10 107 (.pointer (some ⟨r, 0, none⟩)) hHeld rfl rfl (by kernel_rfl) (by kernel_rfl) (by kernel_rfl) (by kernel_rfl) (by kernel_rfl) (by kernel_rfl) (fun _ _ _ h => h) (Or.inl ⟨by rfl, fun w _ => by go_simp⟩) ?_
  simp only [Act.put, List.setIfInBounds_toArray, List.set_cons_zero, List.set_cons_succ]
  refine takeU 19 11 108 (.pointer (some ⟨r, 1, none⟩)) hHeld rfl rfl (by kernel_rfl) (by kernel_rfl) (by kernel_rfl) (by kernel_rfl) (by kernel_rfl) (by kernel_rfl) (fun _ _ _ h => h) (Or.inl ⟨by rfl, fun w _ => by go_simp⟩) ?_
  simp only [Act.put, List.setIfInBounds_toArray, List.set_cons_zero, List.set_cons_succ]
  refine takeU 19 12 109 (.slice (some ⟨g, 0, none⟩) L cap) hHeld rfl rfl (by kernel_rfl) (by kernel_rfl) (by kernel_rfl) (by kernel_rfl) (by kernel_rfl) (by kernel_rfl) (fun _ _ _ h => h) (Or.inl ⟨by rfl, fun w hw => by have hw' : w.cell? ⟨r, 1, none⟩ = some (.slice (some ⟨g, 0, none⟩) L cap) := (fun hw => HC14.out _ hw) hw; go_simp⟩) ?_
  simp only [Act.put, List.setIfInBounds_toArray, List.set_cons_zero, List.set_cons_succ]
  refine takeU 19 13 110 (.int .i64 (I : Int)) hHeld rfl rfl (by kernel_rfl) (by kernel_rfl) (by kernel_rfl) (by kernel_rfl) (by kernel_rfl) (by kernel_rfl) (fun _ _ _ h => h) (Or.inl ⟨by rfl, fun w _ => by go_simp⟩) ?_
  simp only [Act.put, List.setIfInBounds_toArray, List.set_cons_zero, List.set_cons_succ]
  refine takeU 19 14 111 (.int .i64 ((I : Int) + 1)) hHeld rfl rfl (by kernel_rfl) (by kernel_rfl) (by kernel_rfl) (by kernel_rfl) (by kernel_rfl) (by kernel_rfl) (fun _ _ _ h => h) (Or.inl ⟨by rfl, fun w _ => by go_simp⟩) ?_
  simp only [Act.put, List.setIfInBounds_toArray, List.set_cons_zero, List.set_cons_succ]
  refine takeU 19 15 112 (vB) hHeld rfl rfl (by kernel_rfl) (by kernel_rfl) (by kernel_rfl) (by kernel_rfl) (by kernel_rfl) (by kernel_rfl) (fun _ _ _ h => h) (Or.inl ⟨by rfl, fun w h => run_op rfl (HFR.out w)⟩) ?_
  simp only [Act.put, List.setIfInBounds_toArray, List.set_cons_zero, List.set_cons_succ]
  have ONE1 : Hid (∀ x ∈ filC A, x.oneCell' = true) := hide (filC_one A)
  have HLA : Hid (A.length ≤ 1099511000000 ∧ B.length ≤ 1099511000000 ∧ A.length + B.length ≤ 1099511000000) := hide (by have := HL.out; rw [HAB.out, List.length_append, List.length_cons] at this; omega)
  refine wpAnyU_ready (rs := [1]) (by kernel_rfl) (by simp) (AllReadyU.cons rfl (fun K hK => ?_) AllReadyU.nil)
  rw [if_pos (by rfl)]
  refine wp_0F Z0.out.size ?_
  intro w5 g0 hv0 hb5
  have Z5 := hide (Z0.out.trans (hb5.mono Z0.out.size))
  have V0 := hide hv0
  refine hK.out _ _ (fun _ => Z5.out) ?_
  have hHeld := Z5.out
  clear hK K
  clear hv0 hb5
  simp only [Act.put]
  refine wpAnyU_ready (rs := [8]) (by kernel_rfl) (by simp) (AllReadyU.cons rfl (fun K hK => ?_) AllReadyU.nil)
  rw [if_pos (by rfl)]
  refine wp_app0 rFi rfl rfl V0.out (HVT.out _ Z5.out) ONE1.out (by have := HLA.out.1; omega) Z5.out.size ?_
  intro v29 w7 hv29 hb7
  have Z7 := hide (Z5.out.trans (hb7.mono Z5.out.size))
  have V29 := hide hv29
  refine hK.out _ _ (fun _ => Z7.out) ?_
  have hHeld := Z7.out
  clear hK K
  clear hv29 hb7
  simp only [Act.put]
  refine wpAnyU_ready (rs := [16]) (by kernel_rfl) (by simp) (AllReadyU.cons rfl (fun K hK => ?_) AllReadyU.nil)
  rw [if_pos (by rfl)]
  refine wp_appV rFi rfl rfl V29.out (HVF.out _ Z7.out) (filC_one _) (by have := HLA.out; omega) Z7.out.size ?_
  intro v43 w8 hv43 hgr8 hat8
  obtain ⟨L4, hL4⟩ : ∃ L4, (A ++ B).length = L4 := ⟨_, rfl⟩
  have HL4 := hide hL4
  clear hL4
  have V8 : Hid (w8.ownsRow w4.heap.size 135 2 v43 L4 (filC (A ++ B))) := hide (by rw [filC_app, ← HL4.out, List.length_append]; exact hv43)
  have Z8 := hide (Z7.out.trans (grown_below hgr8 (fun k hk => row_ge V29.out hk) Z7.out.size))
  have Y8 := hide (Y4.out.trans (Z8.out.mono Y4.out.size))
  have D8 := hide (D2'.out.below Y8.out)
  obtain ⟨a4, c4, hve4⟩ := row_slice V8.out
  subst hve4
  have k1 : w8.cell? ⟨r, 1, none⟩ = some (.slice (some ⟨g, 0, none⟩) L cap) := HC14.out _ Z8.out
  have k2 : w8.frozen? ⟨r, 1, none⟩ = false := D8.out.fk.blk.free 1
  refine hK.out _ _ (fun _ => Z8.out) ?_
  have hHeld := Z8.out
  clear hK K
  clear hv43 hgr8 hat8
  simp only [Act.put]
  refine wpAnyU_ready (rs := [17]) (by kernel_rfl) (by simp) (AllReadyU.cons rfl (fun K hK => ?_) AllReadyU.nil)
  rw [if_pos (by rfl)]
  go_simp
  refine hK.out _ _ (fun _ => Z8.out) ?_
  have hHeld := Z8.out
  clear hK K
  refine takeU 19 18 115 (.pointer (some ⟨r, 1, none⟩)) hHeld rfl rfl (by kernel_rfl) (by kernel_rfl) (by kernel_rfl) (by kernel_rfl) (by kernel_rfl) (by kernel_rfl) (fun _ _ _ h => h) (Or.inl ⟨by rfl, fun w _ => by go_simp⟩) ?_
  simp only [Act.put, List.setIfInBounds_toArray, List.set_cons_zero, List.set_cons_succ]
  refine wpAnyU_ready (rs := [19]) (by kernel_rfl) (by simp) (AllReadyU.cons rfl (fun K hK => ?_) AllReadyU.nil)
  rw [if_pos (by rfl)]
  go_simp
  refine hK.out _ _ (fun h => absurd h (by decide)) ?_
  clear hK K
  refine wpAnyU_done (by kernel_rfl) ?_ _
  refine NoPanic.normal ?_
  have B6 := But.setCell w8 r 1 (.slice a4 L4 c4)
  have D6 : Hid (DsR w (w8.setCell ⟨r, 1, none⟩ (.slice a4 L4 c4)) r s R (.slice a4 L4 c4) (A ++ B) (rRn n t) (Value.slice none 0 0) g3) := hide (by
    have hne : ∀ {k : Nat} {t : TypeId} {cs : List Value}, Blk w8 k t cs → t ≠ 107 → k ≠ r := fun hc ht => hc.apart D8.out.fk.blk ht
    refine ⟨⟨D8.out.fk.blk.set 1 _, ?_⟩, ?_, ?_, D8.out.new, D8.out.chs.thenBut B6 (.inl (.inl rfl)), fun k hk => ?_, D8.out.off⟩
    · rw [HL4.out]
      refine row_same (Vw.row0 V8.out) (fun k hk => B6.block k ?_)
      obtain ⟨cs, hc⟩ := row_lies V8.out hk
      exact hne hc (by decide)
    · refine row_same D8.out.row (fun k hk => B6.block k ?_)
      obtain ⟨cs, hc⟩ := row_lies D8.out.row hk
      exact hne hc (by decide)
    · exact D8.out.gb.but B6 (hne D8.out.gb (by decide))
    · right
      have h1 := row_ge V8.out hk
      have h2 := D2'.out.chs.size
      have h3 := Y4.out.size
      omega)
  have G76 : Hid (Blk (w8.setCell ⟨r, 1, none⟩ (.slice a4 L4 c4)) g7 135 [.string n, .string (str xs)]) := hide ((G7.out.on Z8.out).but B6 ((G7.out.on Z8.out).apart D8.out.fk.blk (by decide)))
  have N7 : Hid (∀ k, (Value.slice a4 L4 c4).ownBlock = some k → k ≠ g7) := hide (fun k hk e => by
    have h1 := row_ge V8.out hk
    have h2 := G7.out.lt
    omega)
  revert D6 G76
  generalize w8.setCell ⟨r, 1, none⟩ (.slice a4 L4 c4) = w6
  intro D6 G76
  clear k1 k2 hix hHeld f1a f1b B6 V8 Z8 Y8 D8 V29 Z7 V0 Z5 Z0 HC14 HVT HVF HTO HFR
  have c0 : w6.cell? ⟨g3, 0, none⟩ = some (.int .i64 5) := D6.out.r0
  have c44 : w6.cell? ⟨g3, 4, none⟩ = some (.string t) := D6.out.r4
  go_wp2_with (go_at_call 70; refine (HFD2.out _ _ D6.out.fk).mono ?_; rintro e w8 ⟨rfl, hb8⟩; have D8 := hide (D6.out.below hb8); have G78 := hide (G76.out.on hb8); clear hb8)
  clear c0 c44 HFD2
  have HC4 : Hid (∀ z : World, Below w8.heap.size w8 z → z.cell? ⟨g3, 4, none⟩ = some (.string t)) := hide (fun z hz => (D8.out.below hz).r4)
  have HC7 : Hid (∀ z : World, Below w8.heap.size w8 z → z.cell? ⟨g7, 1, none⟩ = some (.string (str xs))) := hide (fun z hz => by rw [(G78.out.on hz).cell]; rfl)
  have HC8 : Hid (∀ z : World, Below w8.heap.size w8 z → z.cell? ⟨r, 1, none⟩ = some (.slice a4 L4 c4)) := hide (fun z hz => (D8.out.below hz).c1)
  obtain ⟨vA2, hto, hvt⟩ := (Vw.of_row D8.out.fk.row).to rFi (k := J) (by rw [HAB2.out, List.length_append, HJ.out]; omega)
  obtain ⟨vB2, hfr, hvf⟩ := (Vw.of_row D8.out.fk.row).from rFi (k := J) (by rw [HAB2.out, List.length_append, HJ.out]; omega)
  have HTO2 := hide hto
  have HFR2 := hide hfr
  have HVT2 : Hid (∀ z : World, Below w8.heap.size w8 z → Vw z 135 2 vA2 A2.length (filC A2)) := hide (fun z hz => by
    have := hvt z (Vw.of_row (D8.out.below hz).fk.row)
    rw [← filC_take, HAB2.out, ← HJ.out, List.take_left' rfl] at this
    exact this)
  have HVF2 : Hid (∀ z : World, Below w8.heap.size w8 z → Vw z 135 2 vB2 B3.length (filC B3)) := hide (fun z hz => by
    have := hvf z (Vw.of_row (D8.out.below hz).fk.row)
    rw [← filC_drop, HAB2.out, ← HJ.out, List.drop_left' rfl, List.length_append, Nat.add_sub_cancel_left] at this
    exact this)
  clear hto hfr hvt hvf
  refine join4 (fun x y z u W => Hid (W.ownsRow w8.heap.size 135 2 u (A2 ++ [(t, xs)]).length (filC (A2 ++ [(t, xs)]))) ∧ Hid (Below w8.heap.size w8 W)) ?act2 ?tail2 (fun hjoin => ?_)
  rotate_left
  rotate_left
  · refine wp_region_noPanic ?_
    refine wp_region_U (q := 15) (S := fun z : World => Below w8.heap.size w8 z) (by kernel_rfl) ?_
    have Z0 := hide ((Below.refl w8.heap.size w8).drew)
    have hHeld := Z0.out
    refine takeU 15 1 137 (.pointer (some ⟨r, 0, none⟩)) hHeld rfl rfl (by kernel_rfl) (by kernel_rfl) (by kernel_rfl) (by kernel_rfl) (by kernel_rfl) (by kernel_rfl) (fun _ _ _ h => h) (Or.inl ⟨by rfl, fun w _ => by go_simp⟩) ?_
    simp only [Act.put, List.setIfInBounds_toArray, List.set_cons_zero, List.set_cons_succ]
    refine takeU 15 2 138 (.pointer (some ⟨r, 0, none⟩)) hHeld rfl rfl (by kernel_rfl) (by kernel_rfl) (by kernel_rfl) (by kernel_rfl) (by kernel_rfl) (by kernel_rfl) (fun _ _ _ h => h) (Or.inl ⟨by rfl, fun w _ => by go_simp⟩) ?_
    simp only [Act.put, List.setIfInBounds_toArray, List.set_cons_zero, List.set_cons_succ]
    refine takeU 15 3 139 (.pointer (some ⟨r, 1, none⟩)) hHeld rfl rfl (by kernel_rfl) (by kernel_rfl) (by kernel_rfl) (by kernel_rfl) (by kernel_rfl) (by kernel_rfl) (fun _ _ _ h => h) (Or.inl ⟨by rfl, fun w _ => by go_simp⟩) ?_
    simp only [Act.put, List.setIfInBounds_toArray, List.set_cons_zero, List.set_cons_succ]
    refine takeU 15 4 140 (.slice a4 L4 c4) hHeld rfl rfl (by kernel_rfl) (by kernel_rfl) (by kernel_rfl) (by kernel_rfl) (by kernel_rfl) (by kernel_rfl) (fun _ _ _ h => h) (Or.inl ⟨by rfl, fun w hw => by have hw' : w.cell? ⟨r, 1, none⟩ = some (.slice a4 L4 c4) := (fun hw => HC8.out _ hw) hw; go_simp⟩) ?_
    simp only [Act.put, List.setIfInBounds_toArray, List.set_cons_zero, List.set_cons_succ]
    refine takeU 15 5 141 (.int .i64 (J : Int)) hHeld rfl rfl (by kernel_rfl) (by kernel_rfl) (by kernel_rfl) (by kernel_rfl) (by kernel_rfl) (by kernel_rfl) (fun _ _ _ h => h) (Or.inl ⟨by rfl, fun w _ => by go_simp⟩) ?_
    simp only [Act.put, List.setIfInBounds_toArray, List.set_cons_zero, List.set_cons_succ]
    refine takeU 15 6 142 (vA2) hHeld rfl rfl (by kernel_rfl) (by kernel_rfl) (by kernel_rfl) (by kernel_rfl) (by kernel_rfl) (by kernel_rfl) (fun _ _ _ h => h) (Or.inl ⟨by rfl, fun w h => run_op rfl (HTO2.out w)⟩) ?_
    simp only [Act.put, List.setIfInBounds_toArray, List.set_cons_zero, List.set_cons_succ]
    refine takeU 15 8 144 (.pointer (some ⟨g3, 4, none⟩)) hHeld rfl rfl (by kernel_rfl) (by kernel_rfl) (by kernel_rfl) (by kernel_rfl) (by kernel_rfl) (by kernel_rfl) (fun _ _ _ h => h) (Or.inl ⟨by rfl, fun w _ => by go_simp⟩) ?_
    simp only [Act.put, List.setIfInBounds_toArray, List.set_cons_zero, List.set_cons_succ]
    refine takeU 15 9 145 (.string t) hHeld rfl rfl (by kernel_rfl) (by kernel_rfl) (by kernel_rfl) (by kernel_rfl) (by kernel_rfl) (by kernel_rfl) (fun _ _ _ h => h) (Or.inl ⟨by rfl, fun w hw => by have hw' : w.cell? ⟨g3, 4, none⟩ = some (.string t) := (fun hw => HC4.out _ hw) hw; go_simp⟩) ?_
    simp only [Act.put, List.setIfInBounds_toArray, List.set_cons_zero, List.set_cons_succ]
    refine takeU 15 10 146 (.pointer (some ⟨g7, 1, none⟩)) hHeld rfl rfl (by kernel_rfl) (by kernel_rfl) (by kernel_rfl) (by kernel_rfl) (by kernel_rfl) (by kernel_rfl) (fun _ _ _ h => h) (Or.inl ⟨by rfl, fun w _ => by go_simp⟩) ?_
    simp only [Act.put, List.setIfInBounds_toArray, List.set_cons_zero, List.set_cons_succ]
    refine takeU 15 11 147 (.string (str xs)) hHeld rfl rfl (by kernel_rfl) (by kernel_rfl) (by kernel_rfl) (by kernel_rfl) (by kernel_rfl) (by kernel_rfl) (fun _ _ _ h => h) (Or.inl ⟨by rfl, fun w hw => by have hw' : w.cell? ⟨g7, 1, none⟩ = some (.string (str xs)) := (fun hw => HC7.out _ hw) hw; go_simp⟩) ?_
    simp only [Act.put, List.setIfInBounds_toArray, List.set_cons_zero, List.set_cons_succ]
    refine takeU 15 12 148 (.agg #[.string t, .string (str xs)]) hHeld rfl rfl (by kernel_rfl) (by kernel_rfl) (by kernel_rfl) (by kernel_rfl) (by kernel_rfl) (by kernel_rfl) (fun _ _ _ h => h) (Or.inl ⟨by rfl, fun w h => run_buildF2 rfl rfl⟩) ?_
    simp only [Act.put, List.setIfInBounds_toArray, List.set_cons_zero, List.set_cons_succ]
    have ONE1 : Hid (∀ x ∈ filC A2, x.oneCell' = true) := hide (filC_one A2)
    have ONE2 : Hid (∀ x ∈ filC [(t, xs)], x.oneCell' = true) := hide (filC_one _)
    have HLA : Hid (A2.length ≤ 1099511000000) := hide (by have := HLA2.out; rw [HAB2.out, List.length_append] at this; omega)
    have HVA : Hid (∀ z : World, Below w8.heap.size w8 z → Vw z 135 2 vA2 A2.length (filC A2)) := hide (fun z hz => HVT2.out z hz)
    refine wpAnyU_ready (rs := [0, 13]) (by kernel_rfl) (by simp) (AllReadyU.cons rfl (fun K hK => ?_) (AllReadyU.cons rfl (fun K hK => ?_) AllReadyU.nil))
    · rw [if_pos (by rfl)]
      refine wp_0F Z0.out.size ?_
      intro w3 g0 hv0 hb0
      have Z3 := hide (Z0.out.trans (hb0.mono Z0.out.size))
      have V0 := hide hv0
      have B0 := hide hb0
      refine hK.out _ _ (fun _ => Z3.out) ?_
      have hHeld := Z3.out
      clear hK K
      clear hv0 hb0
      simp only [Act.put]
      refine wpAnyU_ready (rs := [7, 13]) (by kernel_rfl) (by simp) (AllReadyU.cons rfl (fun K hK => ?_) (AllReadyU.cons rfl (fun K hK => ?_) AllReadyU.nil))
      · rw [if_pos (by rfl)]
        refine wp_app0 rFi rfl rfl V0.out (HVA.out _ Z3.out) ONE1.out (by have := HLA.out; omega) Z3.out.size ?_
        intro v29 w4 hv29 hb7
        have Z4 := hide (Z3.out.trans (hb7.mono Z3.out.size))
        have V29 := hide hv29
        have B7 := hide hb7
        refine hK.out _ _ (fun _ => Z4.out) ?_
        have hHeld := Z4.out
        clear hK K
        clear hv29 hb7
        simp only [Act.put]
        refine wpAnyU_ready (rs := [13]) (by kernel_rfl) (by simp) (AllReadyU.cons rfl (fun K hK => ?_) AllReadyU.nil)
        rw [if_pos (by rfl)]
        refine wp_oneF (n := t) (xs := xs) rfl ?_
        intro w5 v33 hu33 hb11
        have Z5 := hide (Z4.out.trans (hb11.mono Z4.out.size))
        have U33 := hide hu33
        have B11 := hide hb11
        refine hK.out _ _ (fun _ => Z5.out) ?_
        have hHeld := Z5.out
        clear hK K
        clear hu33 hb11
        simp only [Act.put]
        have V29' := hide (row_on V29.out B11.out)
        refine wpAnyU_ready (rs := [14]) (by kernel_rfl) (by simp) (AllReadyU.cons rfl (fun K hK => ?_) AllReadyU.nil)
        rw [if_pos (by rfl)]
        refine wp_appV rFi rfl rfl V29'.out U33.out ONE2.out (by have := HLA.out; omega) Z5.out.size ?_
        intro v34 w6 hv34 hgr12 hat12
        have Z6 := hide (Z5.out.trans (grown_below hgr12 (fun k hk => row_ge V29'.out hk) Z5.out.size))
        have V34 : Hid (w6.ownsRow w8.heap.size 135 2 v34 (A2 ++ [(t, xs)]).length (filC (A2 ++ [(t, xs)]))) := hide (by rw [filC_app, List.length_append]; exact hv34)
        refine hK.out _ _ (fun _ => Z6.out) ?_
        have hHeld := Z6.out
        clear hK K
        clear hv34 hgr12 hat12
        simp only [Act.put]
        refine wpAnyU_ready (rs := [15]) (by kernel_rfl) (by simp) (AllReadyU.cons rfl (fun K hK => ?_) AllReadyU.nil)
        rw [if_pos (by rfl)]
        go_simp
        refine hK.out _ _ (fun h => absurd h (by decide)) ?_
        clear hK K
        refine wpAnyU_done (by kernel_rfl) ?_ _
        refine NoPanic.normal ?_
        exact hjoin g0 v29 v33 v34 w6 ⟨V34, Z6⟩
      · rw [if_pos (by rfl)]
        refine wp_oneF (n := t) (xs := xs) rfl ?_
        intro w4 v33 hu33 hb11
        have Z4 := hide (Z3.out.trans (hb11.mono Z3.out.size))
        have U33 := hide hu33
        have B11 := hide hb11
        refine hK.out _ _ (fun _ => Z4.out) ?_
        have hHeld := Z4.out
        clear hK K
        clear hu33 hb11
        simp only [Act.put]
        have V0' := hide (And.intro V0.out.1 (row_on V0.out.2 B11.out))
        refine wpAnyU_ready (rs := [7]) (by kernel_rfl) (by simp) (AllReadyU.cons rfl (fun K hK => ?_) AllReadyU.nil)
        rw [if_pos (by rfl)]
        refine wp_app0 rFi rfl rfl V0'.out (HVA.out _ Z4.out) ONE1.out (by have := HLA.out; omega) Z4.out.size ?_
        intro v29 w5 hv29 hb7
        have Z5 := hide (Z4.out.trans (hb7.mono Z4.out.size))
        have V29 := hide hv29
        have B7 := hide hb7
        refine hK.out _ _ (fun _ => Z5.out) ?_
        have hHeld := Z5.out
        clear hK K
        clear hv29 hb7
        simp only [Act.put]
        have U33' := hide (U33.out.on B7.out)
        refine wpAnyU_ready (rs := [14]) (by kernel_rfl) (by simp) (AllReadyU.cons rfl (fun K hK => ?_) AllReadyU.nil)
        rw [if_pos (by rfl)]
        refine wp_appV rFi rfl rfl V29.out U33'.out ONE2.out (by have := HLA.out; omega) Z5.out.size ?_
        intro v34 w6 hv34 hgr12 hat12
        have Z6 := hide (Z5.out.trans (grown_below hgr12 (fun k hk => row_ge V29.out hk) Z5.out.size))
        have V34 : Hid (w6.ownsRow w8.heap.size 135 2 v34 (A2 ++ [(t, xs)]).length (filC (A2 ++ [(t, xs)]))) := hide (by rw [filC_app, List.length_append]; exact hv34)
        refine hK.out _ _ (fun _ => Z6.out) ?_
        have hHeld := Z6.out
        clear hK K
        clear hv34 hgr12 hat12
        simp only [Act.put]
        refine wpAnyU_ready (rs := [15]) (by kernel_rfl) (by simp) (AllReadyU.cons rfl (fun K hK => ?_) AllReadyU.nil)
        rw [if_pos (by rfl)]
        go_simp
        refine hK.out _ _ (fun h => absurd h (by decide)) ?_
        clear hK K
        refine wpAnyU_done (by kernel_rfl) ?_ _
        refine NoPanic.normal ?_
        exact hjoin g0 v29 v33 v34 w6 ⟨V34, Z6⟩
    · rw [if_pos (by rfl)]
      refine wp_oneF (n := t) (xs := xs) rfl ?_
      intro w3 v33 hu33 hb11
      have Z3 := hide (Z0.out.trans (hb11.mono Z0.out.size))
      have U33 := hide hu33
      have B11 := hide hb11
      refine hK.out _ _ (fun _ => Z3.out) ?_
      have hHeld := Z3.out
      clear hK K
      clear hu33 hb11
      simp only [Act.put]
      refine wpAnyU_ready (rs := [0]) (by kernel_rfl) (by simp) (AllReadyU.cons rfl (fun K hK => ?_) AllReadyU.nil)
      rw [if_pos (by rfl)]
      refine wp_0F Z3.out.size ?_
      intro w4 g0 hv0 hb0
      have Z4 := hide (Z3.out.trans (hb0.mono Z3.out.size))
      have V0 := hide hv0
      have B0 := hide hb0
      refine hK.out _ _ (fun _ => Z4.out) ?_
      have hHeld := Z4.out
      clear hK K
      clear hv0 hb0
      simp only [Act.put]
      have U33' := hide (U33.out.on B0.out)
      refine wpAnyU_ready (rs := [7]) (by kernel_rfl) (by simp) (AllReadyU.cons rfl (fun K hK => ?_) AllReadyU.nil)
      rw [if_pos (by rfl)]
      refine wp_app0 rFi rfl rfl V0.out (HVA.out _ Z4.out) ONE1.out (by have := HLA.out; omega) Z4.out.size ?_
      intro v29 w5 hv29 hb7
      have Z5 := hide (Z4.out.trans (hb7.mono Z4.out.size))
      have V29 := hide hv29
      have B7 := hide hb7
      refine hK.out _ _ (fun _ => Z5.out) ?_
      have hHeld := Z5.out
      clear hK K
      clear hv29 hb7
      simp only [Act.put]
      have U33'' := hide (U33'.out.on B7.out)
      refine wpAnyU_ready (rs := [14]) (by kernel_rfl) (by simp) (AllReadyU.cons rfl (fun K hK => ?_) AllReadyU.nil)
      rw [if_pos (by rfl)]
      refine wp_appV rFi rfl rfl V29.out U33''.out ONE2.out (by have := HLA.out; omega) Z5.out.size ?_
      intro v34 w6 hv34 hgr12 hat12
      have Z6 := hide (Z5.out.trans (grown_below hgr12 (fun k hk => row_ge V29.out hk) Z5.out.size))
      have V34 : Hid (w6.ownsRow w8.heap.size 135 2 v34 (A2 ++ [(t, xs)]).length (filC (A2 ++ [(t, xs)]))) := hide (by rw [filC_app, List.length_append]; exact hv34)
      refine hK.out _ _ (fun _ => Z6.out) ?_
      have hHeld := Z6.out
      clear hK K
      clear hv34 hgr12 hat12
      simp only [Act.put]
      refine wpAnyU_ready (rs := [15]) (by kernel_rfl) (by simp) (AllReadyU.cons rfl (fun K hK => ?_) AllReadyU.nil)
      rw [if_pos (by rfl)]
      go_simp
      refine hK.out _ _ (fun h => absurd h (by decide)) ?_
      clear hK K
      refine wpAnyU_done (by kernel_rfl) ?_ _
      refine NoPanic.normal ?_
      exact hjoin g0 v29 v33 v34 w6 ⟨V34, Z6⟩
  intro x y z u W9 hP
  obtain ⟨V91, Z91⟩ := hP
  have D31 := hide (D8.out.below Z91.out)
  have c1 : W9.cell? ⟨r, 1, none⟩ = some (Value.slice a4 L4 c4) := D31.out.c1
  have hfr := HFR2.out
  obtain ⟨L9, hL9⟩ : ∃ L9, ((A2 ++ [(t, xs)]) ++ B3).length = L9 := ⟨_, rfl⟩
  have HL9 := hide hL9
  clear hL9
  have HLB : Hid ((A2 ++ [(t, xs)]).length + B3.length ≤ 1099511000002) := hide (by have := HLA2.out; rw [HAB2.out, List.length_append] at this; simp; omega)
  go_upto_region 20 with (refine step_appV rFi rfl rfl rfl V91.out (HVF2.out _ Z91.out) (filC_one _) (by have := HLB.out; omega) Z91.out.size ?_; intro v93 w9 hv93 hgr9 hat9; have V9 : Hid (w9.ownsRow w8.heap.size 135 2 v93 L9 (filC ((A2 ++ [(t, xs)]) ++ B3))) := hide (by rw [filC_app, ← HL9.out, List.length_append]; exact hv93); have Z9 := hide (Z91.out.trans (grown_below hgr9 (fun k hk => row_ge V91.out hk) Z91.out.size)); have D9 := hide (D8.out.below Z9.out); clear hv93 hgr9 hat9; obtain ⟨a9, c9, hve4⟩ := row_slice V9.out; subst hve4; have k1 : w9.cell? ⟨r, 1, none⟩ = some (Value.slice a4 L4 c4) := D9.out.c1; have k2 : w9.frozen? ⟨r, 1, none⟩ = false := D9.out.fk.blk.free 1)
  have B10 := But.setCell w9 r 1 (.slice a9 L9 c9)
  have D10 : Hid (DsR w (w9.setCell ⟨r, 1, none⟩ (.slice a9 L9 c9)) r s R (.slice a9 L9 c9) ((A2 ++ [(t, xs)]) ++ B3) (rRn n t) (Value.slice none 0 0) g3) := hide (by
    have hne : ∀ {k : Nat} {t : TypeId} {cs : List Value}, Blk w9 k t cs → t ≠ 107 → k ≠ r := fun hc ht => hc.apart D9.out.fk.blk ht
    refine ⟨⟨D9.out.fk.blk.set 1 _, ?_⟩, ?_, ?_, D9.out.new, D9.out.chs.thenBut B10 (.inl (.inl rfl)), fun k hk => ?_, D9.out.off⟩
    · rw [HL9.out]
      refine row_same (Vw.row0 V9.out) (fun k hk => B10.block k ?_)
      obtain ⟨cs, hc⟩ := row_lies V9.out hk
      exact hne hc (by decide)
    · refine row_same D9.out.row (fun k hk => B10.block k ?_)
      obtain ⟨cs, hc⟩ := row_lies D9.out.row hk
      exact hne hc (by decide)
    · exact D9.out.gb.but B10 (hne D9.out.gb (by decide))
    · right
      have h1 := row_ge V9.out hk
      have h2 := D8.out.chs.size
      omega)
  revert D10
  generalize w9.setCell ⟨r, 1, none⟩ (.slice a9 L9 c9) = w10
  intro D10
  clear k1 k2 c1 hfr B10 D9 Z9 V9 D31
  go_wp2_with fail
  have HRE5 : Hid (∃ q1 q2, R.qv = .slice q1 R.qs.length q2) := hide (by obtain ⟨q1, q2, hq⟩ := row_slice HH.out.row; exact ⟨q1, q2, hq⟩)
  obtain ⟨L5, hL5⟩ : ∃ L5, (R.qs ++ [(rRn n t, (Value.slice none 0 0))]).length = L5 := ⟨_, rfl⟩
  have HL5 := hide hL5
  clear hL5
  refine wp_region_noPanic ?_
  refine wp_region_U (q := 10) (S := fun z : World => z.cell? ⟨r, 2, none⟩ = some R.qv ∧ z.rangeAt g3 0 (rwC 5 n (.slice none 0 0) 0 t)) (by kernel_rfl) ?_
  have Z0 := hide ((Below.refl w10.heap.size w10).drew)
  have E0 := hide (D10.out.below Z0.out)
  have HIR : Hid ((Tryz.prog.info? 116).map (·.size) = some (rwC 5 n (.slice none 0 0) 0 t).length) := hide (by rw [wRw.size]; rfl)
  have gb0 : Blk w10.drew g3 116 (rwC 5 n (.slice none 0 0) 0 t) := E0.out.gb
  have hHeld : w10.drew.cell? ⟨r, 2, none⟩ = some R.qv ∧ w10.drew.rangeAt g3 0 (rwC 5 n (.slice none 0 0) 0 t) := ⟨E0.out.c2, gb0.range 0 _ (by simp)⟩
  clear gb0
  refine takeU 10 0 168 (.pointer (some ⟨r, 0, none⟩)) hHeld rfl rfl (by kernel_rfl) (by kernel_rfl) (by kernel_rfl) (by kernel_rfl) (by kernel_rfl) (by kernel_rfl) (fun _ _ _ h => h) (Or.inl ⟨by rfl, fun w _ => by go_simp⟩) ?_
  simp only [Act.put, List.setIfInBounds_toArray, List.set_cons_zero, List.set_cons_succ]
  refine takeU 10 1 169 (.pointer (some ⟨r, 0, none⟩)) hHeld rfl rfl (by kernel_rfl) (by kernel_rfl) (by kernel_rfl) (by kernel_rfl) (by kernel_rfl) (by kernel_rfl) (fun _ _ _ h => h) (Or.inl ⟨by rfl, fun w _ => by go_simp⟩) ?_
  simp only [Act.put, List.setIfInBounds_toArray, List.set_cons_zero, List.set_cons_succ]
  refine takeU 10 2 170 (.pointer (some ⟨r, 0, none⟩)) hHeld rfl rfl (by kernel_rfl) (by kernel_rfl) (by kernel_rfl) (by kernel_rfl) (by kernel_rfl) (by kernel_rfl) (fun _ _ _ h => h) (Or.inl ⟨by rfl, fun w _ => by go_simp⟩) ?_
  simp only [Act.put, List.setIfInBounds_toArray, List.set_cons_zero, List.set_cons_succ]
  refine takeU 10 3 171 (.pointer (some ⟨r, 2, none⟩)) hHeld rfl rfl (by kernel_rfl) (by kernel_rfl) (by kernel_rfl) (by kernel_rfl) (by kernel_rfl) (by kernel_rfl) (fun _ _ _ h => h) (Or.inl ⟨by rfl, fun w _ => by go_simp⟩) ?_
  simp only [Act.put, List.setIfInBounds_toArray, List.set_cons_zero, List.set_cons_succ]
  refine takeU 10 4 172 (R.qv) hHeld rfl rfl (by kernel_rfl) (by kernel_rfl) (by kernel_rfl) (by kernel_rfl) (by kernel_rfl) (by kernel_rfl) (fun _ _ _ h => h) (Or.inl ⟨by rfl, fun w hw => by have hw' : w.cell? ⟨r, 2, none⟩ = some (R.qv) := (fun h => h.1) hw; go_simp⟩) ?_
  simp only [Act.put, List.setIfInBounds_toArray, List.set_cons_zero, List.set_cons_succ]
  refine takeU 10 5 173 (.agg (rwC 5 n (.slice none 0 0) 0 t).toArray) hHeld rfl rfl (by kernel_rfl) (by kernel_rfl) (by kernel_rfl) (by kernel_rfl) (by kernel_rfl) (by kernel_rfl) (fun _ _ _ h => h) (yieldsIf_load_mid (by rfl) _ _ rfl g3 0 rfl _ _ (fun w h => h.2) Tryz.underlying116 rfl HIR.out) ?_
  simp only [Act.put, List.setIfInBounds_toArray, List.set_cons_zero, List.set_cons_succ]
  refine wpAnyU_ready (rs := [6]) (by kernel_rfl) (by simp) (AllReadyU.cons rfl (fun K hK => ?_) AllReadyU.nil)
  rw [if_pos (by rfl)]
  refine wp_oneR (r := rRn n t) (v := (Value.slice none 0 0)) ⟨_, _, _, rfl⟩ rfl ?_
  intro w4 u4 hu4 hb4
  have E4 := hide (E0.out.below hb4)
  have HU4 := hide hu4
  have gb0 : Blk w4 g3 116 (rwC 5 n (.slice none 0 0) 0 t) := E4.out.gb
  have hH4 : w4.cell? ⟨r, 2, none⟩ = some R.qv ∧ w4.rangeAt g3 0 (rwC 5 n (.slice none 0 0) 0 t) := ⟨E4.out.c2, gb0.range 0 _ (by simp)⟩
  clear gb0
  refine hK.out _ _ (fun _ => hH4) ?_
  have hHeld := hH4
  clear hK K
  clear hu4 hb4 hH4
  simp only [Act.put]
  refine wpAnyU_ready (rs := [7]) (by kernel_rfl) (by simp) (AllReadyU.cons rfl (fun K hK => ?_) AllReadyU.nil)
  rw [if_pos (by rfl)]
  refine wp_appV rRw rfl rfl E4.out.row HU4.out (rwsC_one _ (fun x hx => by simp at hx; subst hx; exact ⟨_, _, _, rfl⟩)) (by have := HRL.out; omega) (Nat.zero_le _) ?_
  intro qv5 w5 hrow5 hgr5 hat5
  have hne5 : ∀ k, R.qv.ownBlock = some k → k ≠ r := fun k hk e => by
    obtain ⟨cs, hc⟩ := row_lies E4.out.row hk
    exact hc.apart E4.out.fk.blk (by decide) e
  have hnf5 : ∀ k, (Value.slice a9 L9 c9).ownBlock = some k → R.qv.ownBlock ≠ some k := fun k hk e => by
    obtain ⟨cs, hc⟩ := row_lies E4.out.row e
    obtain ⟨cs', hc'⟩ := row_lies E4.out.fk.row hk
    exact hc.apart hc' (by decide) rfl
  have DK5 : Hid (Blk w5 r 107 (rkC s (Value.slice a9 L9 c9) R.qv)) := hide (E4.out.fk.blk.same (hgr5.block r E4.out.fk.blk.lt (fun e => hne5 r e.symm rfl)))
  have G5 : Hid (Blk w5 g3 116 (rwC 5 n (.slice none 0 0) 0 t)) := hide (Blk.same E4.out.gb (hgr5.block g3 E4.out.gb.lt (fun e => E4.out.off e.symm)))
  have F5 : Hid (w5.ownsRow 0 135 2 (Value.slice a9 L9 c9) ((A2 ++ [(t, xs)]) ++ B3).length (filC (((A2 ++ [(t, xs)]) ++ B3)))) := hide (row_same E4.out.fk.row (fun k hk => by
    obtain ⟨cs, hc⟩ := row_lies E4.out.fk.row hk
    exact hgr5.block k hc.lt (fun e => hnf5 k hk e.symm)))
  have CH5 : Hid (Chs (R.own r) w w5) := hide (E4.out.chs.thenGrown hgr5 (fun k hk => .inl (.inr (.inr hk))))
  have LQ5 : Hid (∀ k, qv5.ownBlock = some k → R.own r k ∨ w.heap.size ≤ k) := hide (fun k hk => by
    rcases hat5 with e | e
    · exact .inl (.inr (.inr (by rw [e] at hk; exact hk)))
    · rw [e] at hk
      injection hk with hk
      have := E4.out.chs.size
      right
      omega)
  have ROW5 : Hid (w5.ownsRow 0 116 5 qv5 L5 (rwsC (R.qs ++ [(rRn n t, (Value.slice none 0 0))]))) := hide (by rw [rwsC_app, ← HL5.out, List.length_append]; exact hrow5)
  obtain ⟨qa5, qc5, hqe5⟩ := row_slice ROW5.out
  subst hqe5
  have k1 : w5.cell? ⟨r, 2, none⟩ = some R.qv := by rw [DK5.out.cell]; rfl
  have k2 : w5.frozen? ⟨r, 2, none⟩ = false := DK5.out.free 2
  have hH5 : w5.cell? ⟨r, 2, none⟩ = some R.qv ∧ w5.rangeAt g3 0 (rwC 5 n (.slice none 0 0) 0 t) := ⟨k1, G5.out.range 0 _ (by simp)⟩
  refine hK.out _ _ (fun _ => hH5) ?_
  have hHeld := hH5
  clear hK K
  clear hrow5 hgr5 hat5 hne5 hnf5
  simp only [Act.put]
  refine wpAnyU_ready (rs := [8]) (by kernel_rfl) (by simp) (AllReadyU.cons rfl (fun K hK => ?_) AllReadyU.nil)
  rw [if_pos (by rfl)]
  go_simp
  refine hK.out _ _ (fun _ => hH5) ?_
  have hHeld := hH5
  clear hK K
  clear hH5
  refine takeU 10 9 177 (.pointer (some ⟨r, 2, none⟩)) hHeld rfl rfl (by kernel_rfl) (by kernel_rfl) (by kernel_rfl) (by kernel_rfl) (by kernel_rfl) (by kernel_rfl) (fun _ _ _ h => h) (Or.inl ⟨by rfl, fun w _ => by go_simp⟩) ?_
  simp only [Act.put, List.setIfInBounds_toArray, List.set_cons_zero, List.set_cons_succ]
  refine wpAnyU_ready (rs := [10]) (by kernel_rfl) (by simp) (AllReadyU.cons rfl (fun K hK => ?_) AllReadyU.nil)
  rw [if_pos (by rfl)]
  go_simp
  refine hK.out _ _ (fun h => absurd h (by decide)) ?_
  clear hK K
  refine wpAnyU_done (by kernel_rfl) ?_ _
  refine NoPanic.normal ?_
  have B6 := But.setCell w5 r 2 (.slice qa5 L5 qc5)
  have FK6 : FkAt (w5.setCell ⟨r, 2, none⟩ (.slice qa5 L5 qc5)) r s (Value.slice a9 L9 c9) (.slice qa5 L5 qc5) (((A2 ++ [(t, xs)]) ++ B3)) := ⟨DK5.out.set 2 _, row_same F5.out (fun k hk => B6.block k (fun e => by
    obtain ⟨cs, hc⟩ := row_lies F5.out hk
    exact hc.apart DK5.out (by decide) e))⟩
  have hres : RoR w (w5.setCell ⟨r, 2, none⟩ (.slice qa5 L5 qc5)) r s R (rs ++ [rRn n t]) (Value.slice none 0 0) := DsR.done HH.out HLR.out HV.out (by exact HFL.out) HLN.out FK6 (by rw [HL5.out]; exact row_same ROW5.out (fun k hk => B6.block k (fun e => by
    obtain ⟨cs, hc⟩ := row_lies ROW5.out hk
    exact hc.apart DK5.out (by decide) e))) (CH5.out.thenBut B6 (.inl (.inl rfl))) D10.out.lie LQ5.out rfl
  revert hres
  generalize w5.setCell ⟨r, 2, none⟩ (.slice qa5 L5 qc5) = w6
  intro hres
  have HRES := hide hres
  clear hres
  go_wp2
  go_end0
  exact ⟨rfl, HRES.out⟩
set_option maxRecDepth 100000 in
set_option maxHeartbeats 1000000 in
theorem doR_rn1 (ys : List Int) (ht : play rs t = some ys) : Calls Tryz.prog 63 #[.pointer (some ⟨r, 0, none⟩), .agg (rwC 5 n (.slice none 0 0) 0 t).toArray] w fun e w' => e = .returned (.tuple #[]) ∧ RoR w w' r s R (rs ++ [rRn n t]) (.slice none 0 0) := by
  obtain ⟨A, B0, hAB0, hA, hlt, hB⟩ := h.fls.split n
  obtain ⟨I, hI⟩ : ∃ I, A.length = I := ⟨_, rfl⟩
  obtain ⟨B, hBB, hB2⟩ : ∃ B, B0 = (n, xs) :: B ∧ ∀ b ∈ B, blt n b.1 = true := by
    rcases hB with ⟨h1, _⟩ | ⟨ys, B', h1, h2, h3⟩
    · rw [hf] at h1; cases h1
    · rw [hf] at h1
      injection h1 with h1
      subst h1
      exact ⟨B', h2, h3⟩
  subst hBB
  have hAB := hAB0
  have hxs : fl (play rs) n = xs := by simp [fl, hf]
  have HLR : Hid (Lraw s (play rs) (rRn n t)) := hide ⟨.inr (.inr (.inr (.inr ⟨n, t, xs, rfl, hn, hnt', hf, hnt⟩))), fun h2 => by cases h2⟩
  have hF2 : FL (upd (play rs) n none) (A ++ B) := by
    have := h.fls
    rw [hAB] at this
    exact this.turn hlt hB2
  obtain ⟨A2, B3, hAB3, hA2, hlt2, hB3⟩ := hF2.split t
  obtain ⟨J, hJ⟩ : ∃ J, A2.length = J := ⟨_, rfl⟩
  have htf : upd (play rs) n none t = play rs t := upd_ne _ _ (Ne.symm hnt)
  rw [htf] at hB3
  obtain ⟨B2, hBB2, hB4⟩ : ∃ B2, B3 = (t, ys) :: B2 ∧ ∀ b ∈ B2, blt t b.1 = true := by
    rcases hB3 with ⟨h1, _⟩ | ⟨zs, B', h1, h2, h3⟩
    · rw [ht] at h1; cases h1
    · rw [ht] at h1
      injection h1 with h1
      subst h1
      exact ⟨B', h2, h3⟩
  subst hBB2
  have HFL : Hid (FL (doR (play rs) (rRn n t)) (A2 ++ (t, xs) :: B2)) := hide (by
    have h3 := hF2
    rw [hAB3] at h3
    have h4 := h3.set hlt2 hB4 xs
    rw [ren_upd _ hnt] at h4
    rw [do_rn, hxs]
    exact h4)
  have hlen : (A ++ B).length = (A2 ++ (t, ys) :: B2).length := by rw [hAB3]
  have HLN : Hid ((A2 ++ (t, xs) :: B2).length ≤ rs.length + 1) := hide (by
    have := h.few
    rw [hAB] at this
    simp at this hlen ⊢
    omega)
  have HLA2 : Hid ((A ++ B).length ≤ 1099511000000) := hide (by have h1 := h.few; rw [hAB] at h1; have h2 := len_wt rs; simp at h1 ⊢; omega)
  have HFD2 : Hid (∀ (fv : Value) (W : World), FkAt W r s fv R.qv (A ++ B) → Calls Tryz.prog 70 #[.pointer (some ⟨r, 0, none⟩), .string t] W fun e w' => e = .returned (.tuple #[.int .i64 (J : Int), .bool true]) ∧ Below W.heap.size W w') := hide (fun fv W hW => by
    have := find_any r s fv R.qv (A ++ B) (upd (play rs) n none) t W hW hF2 HLA2.out
    rw [← hA2, hJ, htf, ht] at this
    exact this)
  have HAB2 := hide hAB3
  have HJ := hide hJ
  clear hB hB2 hn hAB0 hxs hF2 hAB3 hA2 hlt2 hB3 hJ htf hB4 hlen hnt'
  obtain ⟨fa, fc, hfe⟩ := row_slice h.fk.row
  have HH := hide h
  have HL : Hid (R.l.length ≤ 1099511000000) := hide (by have h1 := h.few; have h2 := len_wt rs; omega)
  have hrl : R.qs.length = rs.length := by rw [← h.raw]; simp
  have HRL : Hid (R.qs.length ≤ 1099511000000) := hide (by have h2 := len_wt rs; omega)
  clear hrl
  have HFE := hide hfe
  have HAB := hide hAB
  have HA := hide hA
  have HLTA := hide hlt
  have HV := hide hv
  have hfind : ∀ (W : World), FkAt W r s R.fv R.qv R.l → Calls Tryz.prog 70 #[.pointer (some ⟨r, 0, none⟩), .string n] W fun e w' => e = .returned (.tuple #[.int .i64 (I : Int), .bool true]) ∧ Below W.heap.size W w' := fun W hW => by
    have := find_any r s R.fv R.qv R.l (play rs) n W hW h.fls HL.out
    rw [← hA, hI, hf] at this
    exact this
  have HFD := hide hfind
  clear h hAB hA hlt hv hfe hfind hwt
  go_enter Tryz.func63, Tryz.ntmps63
  go_wp2_with (refine step_box (cs := rwC 5 n (.slice none 0 0) 0 t) rfl rfl ?_)
  intro w1 g3 hg3 hle3 hb1
  have D1 : Hid (DsR w w1 r s R R.fv R.l (rRn n t) (Value.slice none 0 0) g3) := hide (HH.out.ds hb1 hg3 hle3)
  have c1 : w1.cell? ⟨g3, 1, none⟩ = some (.string n) := D1.out.r1
  clear hg3 hle3 hb1
  go_upto_region 12 with (go_at_call 70; refine (HFD.out _ D1.out.fk).mono ?_; rintro e w2 ⟨rfl, hb2⟩; have D2 := hide (D1.out.below hb2); have c0 : w2.cell? ⟨g3, 0, none⟩ = some (.int .i64 5) := D2.out.r0; clear c1 D1 hb2)
  clear HFD
  have D2' := D2
  rw [HAB.out] at D2'
  obtain ⟨g, cap, hfv, hcells⟩ := D2'.out.at'
  have HFV := hide hfv
  obtain ⟨L, hL⟩ : ∃ L, (A ++ (n, xs) :: B).length = L := ⟨_, rfl⟩
  rw [hL] at hfv
  have HIX : Hid (∀ z : World, (Instr.indexAt 104 (.slice (some ⟨g, 0, none⟩) L cap) (.int .i64 (I : Int))).run Tryz.prog z = .ok (.pointer (some ⟨g, I * 2, none⟩)) z) := hide (fun z => vw_at rFi g L cap I (by rw [← hL, ← hI]; simp) z)
  have HC1 : Hid (∀ z : World, Below w2.heap.size w2 z → z.cell? ⟨r, 1, none⟩ = some (.slice (some ⟨g, 0, none⟩) L cap)) := hide (fun z hz => by rw [← hfv]; exact (D2.out.below hz).c1)
  have HCB : Hid (∀ z : World, Below w2.heap.size w2 z → z.cell? ⟨g, I * 2 + 1, none⟩ = some (.string (str xs))) := hide (fun z hz => by rw [← hI]; exact (hcells z hz).2.1)
  have HFZ : Hid (∀ z : World, Below w2.heap.size w2 z → z.frozen? ⟨g, I * 2 + 1, none⟩ = false) := hide (fun z hz => by rw [← hI]; exact (hcells z hz).2.2.1)
  have HRG : Hid (∀ z : World, Below w2.heap.size w2 z → z.rangeAt g (I * 2) [.string n, .string (str xs)]) := hide (fun z hz => by rw [← hI]; exact (hcells z hz).2.2.2)
  have HLL := hide hL
  have HII := hide hI
  clear hfv hcells hL c0 hI
  obtain ⟨vA, hto, hvt⟩ := (Vw.of_row D2'.out.fk.row).to rFi (k := I) (by rw [← HII.out]; simp)
  obtain ⟨vB, hfr, hvf⟩ := (Vw.of_row D2'.out.fk.row).from rFi (k := I + 1) (by rw [← HII.out]; simp)
  rw [HFV.out, HLL.out] at hto hfr
  have HTO := hide hto
  have hfr' : ∀ W : World, (Instr.slice 104 (.slice (some ⟨g, 0, none⟩) L cap) (some (.int .i64 ((I : Int) + 1))) none none).run Tryz.prog W = .ok vB W := fun W => by have := hfr W; push_cast at this; exact this
  have HFR := hide hfr'
  have HIB : Hid ((I : Int) + 1 ≤ 1099511000001) := hide (by have h1 := HL.out; rw [HAB.out, List.length_append] at h1; have h2 := HII.out; omega)
  have c1 := HC1.out _ (Below.refl _ _)
  have hix := HIX.out
  clear hto hfr hfr'
  go_wp2_with (first | (refine step_loadR wFi rfl rfl [.string n, .string (str xs)] (HRG.out _ (Below.refl _ _)) rfl ?_) | (refine step_alloc zFi rfl ?_))
  intro w3 g7 hg7 hle7 hb3
  go_wp2_with (refine step_storeA wFi rfl rfl rfl hg7 rfl (One.fi _ _) rfl ?_)
  intro w4 hg7' hbut4
  have Y4 := hide (hb3.trans (hbut4.below hle7))
  have G7 := hide hg7'
  have L7 := hide hle7
  have HVT : Hid (∀ z : World, Below w4.heap.size w4 z → Vw z 135 2 vA A.length (filC A)) := hide (fun z hz => by
    have hz2 := Y4.out.trans (hz.mono Y4.out.size)
    have := hvt z (Vw.of_row (D2'.out.below hz2).fk.row)
    rw [← filC_take, ← HII.out, List.take_left' rfl] at this
    exact this)
  have HVF : Hid (∀ z : World, Below w4.heap.size w4 z → Vw z 135 2 vB B.length (filC B)) := hide (fun z hz => by
    have hz2 := Y4.out.trans (hz.mono Y4.out.size)
    have := hvf z (Vw.of_row (D2'.out.below hz2).fk.row)
    rw [← filC_drop, ← HII.out] at this
    have e1 : (A ++ (n, xs) :: B).drop (A.length + 1) = B := by rw [← List.drop_drop, List.drop_left' rfl]; rfl
    have e2 : (A ++ (n, xs) :: B).length - (A.length + 1) = B.length := by simp; omega
    rw [e1, e2] at this
    exact this)
  clear hvt hvf hg7 hg7' hle7 hb3 hbut4 c1
  go_wp2_with fail
  refine wp_region_noPanic ?_
  refine wp_region_U (q := 19) (S := fun z : World => Below w4.heap.size w4 z) (by kernel_rfl) ?_
  have Z0 := hide ((Below.refl w4.heap.size w4).drew)
  have hHeld := Z0.out
  have HC14 : Hid (∀ z : World, Below w4.heap.size w4 z → z.cell? ⟨r, 1, none⟩ = some (.slice (some ⟨g, 0, none⟩) L cap)) := hide (fun z hz => HC1.out z (Y4.out.trans (hz.mono Y4.out.size)))
  obtain ⟨f1a, f1b⟩ := wrapN ((I : Int) + 1) (by omega) (by have := HIB.out; omega)
  refine takeU 19 0 97 (.pointer (some ⟨r, 0, none⟩)) hHeld rfl rfl (by kernel_rfl) (by kernel_rfl) (by kernel_rfl) (by kernel_rfl) (by kernel_rfl) (by kernel_rfl) (fun _ _ _ h => h) (Or.inl ⟨by rfl, fun w _ => by go_simp⟩) ?_
  simp only [Act.put, List.setIfInBounds_toArray, List.set_cons_zero, List.set_cons_succ]
  refine takeU 19 2 99 (.pointer (some ⟨r, 0, none⟩)) hHeld rfl rfl (by kernel_rfl) (by kernel_rfl) (by kernel_rfl) (by kernel_rfl) (by kernel_rfl) (by kernel_rfl) (fun _ _ _ h => h) (Or.inl ⟨by rfl, fun w _ => by go_simp⟩) ?_
  simp only [Act.put, List.setIfInBounds_toArray, List.set_cons_zero, List.set_cons_succ]
  refine takeU 19 3 100 (.pointer (some ⟨r, 0, none⟩)) hHeld rfl rfl (by kernel_rfl) (by kernel_rfl) (by kernel_rfl) (by kernel_rfl) (by kernel_rfl) (by kernel_rfl) (fun _ _ _ h => h) (Or.inl ⟨by rfl, fun w _ => by go_simp⟩) ?_
  simp only [Act.put, List.setIfInBounds_toArray, List.set_cons_zero, List.set_cons_succ]
  refine takeU 19 4 101 (.pointer (some ⟨r, 1, none⟩)) hHeld rfl rfl (by kernel_rfl) (by kernel_rfl) (by kernel_rfl) (by kernel_rfl) (by kernel_rfl) (by kernel_rfl) (fun _ _ _ h => h) (Or.inl ⟨by rfl, fun w _ => by go_simp⟩) ?_
  simp only [Act.put, List.setIfInBounds_toArray, List.set_cons_zero, List.set_cons_succ]
  refine takeU 19 5 102 (.slice (some ⟨g, 0, none⟩) L cap) hHeld rfl rfl (by kernel_rfl) (by kernel_rfl) (by kernel_rfl) (by kernel_rfl) (by kernel_rfl) (by kernel_rfl) (fun _ _ _ h => h) (Or.inl ⟨by rfl, fun w hw => by have hw' : w.cell? ⟨r, 1, none⟩ = some (.slice (some ⟨g, 0, none⟩) L cap) := (fun hw => HC14.out _ hw) hw; go_simp⟩) ?_
  simp only [Act.put, List.setIfInBounds_toArray, List.set_cons_zero, List.set_cons_succ]
  refine takeU 19 6 103 (.int .i64 (I : Int)) hHeld rfl rfl (by kernel_rfl) (by kernel_rfl) (by kernel_rfl) (by kernel_rfl) (by kernel_rfl) (by kernel_rfl) (fun _ _ _ h => h) (Or.inl ⟨by rfl, fun w _ => by go_simp⟩) ?_
  simp only [Act.put, List.setIfInBounds_toArray, List.set_cons_zero, List.set_cons_succ]
  refine takeU 19 7 104 (vA) hHeld rfl rfl (by kernel_rfl) (by kernel_rfl) (by kernel_rfl) (by kernel_rfl) (by kernel_rfl) (by kernel_rfl) (fun _ _ _ h => h) (Or.inl ⟨by rfl, fun w h => run_op rfl (HTO.out w)⟩) ?_
  simp only [Act.put, List.setIfInBounds_toArray, List.set_cons_zero, List.set_cons_succ]
  refine takeU 19 9 106 (.pointer (some ⟨r, 0, none⟩)) hHeld rfl rfl (by kernel_rfl) (by kernel_rfl) (by kernel_rfl) (by kernel_rfl) (by kernel_rfl) (by kernel_rfl) (fun _ _ _ h => h) (Or.inl ⟨by rfl, fun w _ => by go_simp⟩) ?_
  simp only [Act.put, List.setIfInBounds_toArray, List.set_cons_zero, List.set_cons_succ]
  refine takeU 19 10 107 (.pointer (some ⟨r, 0, none⟩)) hHeld rfl rfl (by kernel_rfl) (by kernel_rfl) (by kernel_rfl) (by kernel_rfl) (by kernel_rfl) (by kernel_rfl) (fun _ _ _ h => h) (Or.inl ⟨by rfl, fun w _ => by go_simp⟩) ?_
  simp only [Act.put, List.setIfInBounds_toArray, List.set_cons_zero, List.set_cons_succ]
  refine takeU 19 11 108 (.pointer (some ⟨r, 1, none⟩)) hHeld rfl rfl (by kernel_rfl) (by kernel_rfl) (by kernel_rfl) (by kernel_rfl) (by kernel_rfl) (by kernel_rfl) (fun _ _ _ h => h) (Or.inl ⟨by rfl, fun w _ => by go_simp⟩) ?_
  simp only [Act.put, List.setIfInBounds_toArray, List.set_cons_zero, List.set_cons_succ]
  refine takeU 19 12 109 (.slice (some ⟨g, 0, none⟩) L cap) hHeld rfl rfl (by kernel_rfl) (by kernel_rfl) (by kernel_rfl) (by kernel_rfl) (by kernel_rfl) (by kernel_rfl) (fun _ _ _ h => h) (Or.inl ⟨by rfl, fun w hw => by have hw' : w.cell? ⟨r, 1, none⟩ = some (.slice (some ⟨g, 0, none⟩) L cap) := (fun hw => HC14.out _ hw) hw; go_simp⟩) ?_
  simp only [Act.put, List.setIfInBounds_toArray, List.set_cons_zero, List.set_cons_succ]
  refine takeU 19 13 110 (.int .i64 (I : Int)) hHeld rfl rfl (by kernel_rfl) (by kernel_rfl) (by kernel_rfl) (by kernel_rfl) (by kernel_rfl) (by kernel_rfl) (fun _ _ _ h => h) (Or.inl ⟨by rfl, fun w _ => by go_simp⟩) ?_
  simp only [Act.put, List.setIfInBounds_toArray, List.set_cons_zero, List.set_cons_succ]
  refine takeU 19 14 111 (.int .i64 ((I : Int) + 1)) hHeld rfl rfl (by kernel_rfl) (by kernel_rfl) (by kernel_rfl) (by kernel_rfl) (by kernel_rfl) (by kernel_rfl) (fun _ _ _ h => h) (Or.inl ⟨by rfl, fun w _ => by go_simp⟩) ?_
  simp only [Act.put, List.setIfInBounds_toArray, List.set_cons_zero, List.set_cons_succ]
  refine takeU 19 15 112 (vB) hHeld rfl rfl (by kernel_rfl) (by kernel_rfl) (by kernel_rfl) (by kernel_rfl) (by kernel_rfl) (by kernel_rfl) (fun _ _ _ h => h) (Or.inl ⟨by rfl, fun w h => run_op rfl (HFR.out w)⟩) ?_
  simp only [Act.put, List.setIfInBounds_toArray, List.set_cons_zero, List.set_cons_succ]
  have ONE1 : Hid (∀ x ∈ filC A, x.oneCell' = true) := hide (filC_one A)
  have HLA : Hid (A.length ≤ 1099511000000 ∧ B.length ≤ 1099511000000 ∧ A.length + B.length ≤ 1099511000000) := hide (by have := HL.out; rw [HAB.out, List.length_append, List.length_cons] at this; omega)
  refine wpAnyU_ready (rs := [1]) (by kernel_rfl) (by simp) (AllReadyU.cons rfl (fun K hK => ?_) AllReadyU.nil)
  rw [if_pos (by rfl)]
  refine wp_0F Z0.out.size ?_
  intro w5 g0 hv0 hb5
  have Z5 := hide (Z0.out.trans (hb5.mono Z0.out.size))
  have V0 := hide hv0
  refine hK.out _ _ (fun _ => Z5.out) ?_
  have hHeld := Z5.out
  clear hK K
  clear hv0 hb5
  simp only [Act.put]
  refine wpAnyU_ready (rs := [8]) (by kernel_rfl) (by simp) (AllReadyU.cons rfl (fun K hK => ?_) AllReadyU.nil)
  rw [if_pos (by rfl)]
  refine wp_app0 rFi rfl rfl V0.out (HVT.out _ Z5.out) ONE1.out (by have := HLA.out.1; omega) Z5.out.size ?_
  intro v29 w7 hv29 hb7
  have Z7 := hide (Z5.out.trans (hb7.mono Z5.out.size))
  have V29 := hide hv29
  refine hK.out _ _ (fun _ => Z7.out) ?_
  have hHeld := Z7.out
  clear hK K
  clear hv29 hb7
  simp only [Act.put]
  refine wpAnyU_ready (rs := [16]) (by kernel_rfl) (by simp) (AllReadyU.cons rfl (fun K hK => ?_) AllReadyU.nil)
  rw [if_pos (by rfl)]
  refine wp_appV rFi rfl rfl V29.out (HVF.out _ Z7.out) (filC_one _) (by have := HLA.out; omega) Z7.out.size ?_
  intro v43 w8 hv43 hgr8 hat8
  obtain ⟨L4, hL4⟩ : ∃ L4, (A ++ B).length = L4 := ⟨_, rfl⟩
  have HL4 := hide hL4
  clear hL4
  have V8 : Hid (w8.ownsRow w4.heap.size 135 2 v43 L4 (filC (A ++ B))) := hide (by rw [filC_app, ← HL4.out, List.length_append]; exact hv43)
  have Z8 := hide (Z7.out.trans (grown_below hgr8 (fun k hk => row_ge V29.out hk) Z7.out.size))
  have Y8 := hide (Y4.out.trans (Z8.out.mono Y4.out.size))
  have D8 := hide (D2'.out.below Y8.out)
  obtain ⟨a4, c4, hve4⟩ := row_slice V8.out
  subst hve4
  have k1 : w8.cell? ⟨r, 1, none⟩ = some (.slice (some ⟨g, 0, none⟩) L cap) := HC14.out _ Z8.out
  have k2 : w8.frozen? ⟨r, 1, none⟩ = false := D8.out.fk.blk.free 1
  refine hK.out _ _ (fun _ => Z8.out) ?_
  have hHeld := Z8.out
  clear hK K
  clear hv43 hgr8 hat8
  simp only [Act.put]
  refine wpAnyU_ready (rs := [17]) (by kernel_rfl) (by simp) (AllReadyU.cons rfl (fun K hK => ?_) AllReadyU.nil)
  rw [if_pos (by rfl)]
  go_simp
  refine hK.out _ _ (fun _ => Z8.out) ?_
  have hHeld := Z8.out
  clear hK K
  refine takeU 19 18 115 (.pointer (some ⟨r, 1, none⟩)) hHeld rfl rfl (by kernel_rfl) (by kernel_rfl) (by kernel_rfl) (by kernel_rfl) (by kernel_rfl) (by kernel_rfl) (fun _ _ _ h => h) (Or.inl ⟨by rfl, fun w _ => by go_simp⟩) ?_
  simp only [Act.put, List.setIfInBounds_toArray, List.set_cons_zero, List.set_cons_succ]
  refine wpAnyU_ready (rs := [19]) (by kernel_rfl) (by simp) (AllReadyU.cons rfl (fun K hK => ?_) AllReadyU.nil)
  rw [if_pos (by rfl)]
  go_simp
  refine hK.out _ _ (fun h => absurd h (by decide)) ?_
  clear hK K
  refine wpAnyU_done (by kernel_rfl) ?_ _
  refine NoPanic.normal ?_
  have B6 := But.setCell w8 r 1 (.slice a4 L4 c4)
  have D6 : Hid (DsR w (w8.setCell ⟨r, 1, none⟩ (.slice a4 L4 c4)) r s R (.slice a4 L4 c4) (A ++ B) (rRn n t) (Value.slice none 0 0) g3) := hide (by
    have hne : ∀ {k : Nat} {t : TypeId} {cs : List Value}, Blk w8 k t cs → t ≠ 107 → k ≠ r := fun hc ht => hc.apart D8.out.fk.blk ht
    refine ⟨⟨D8.out.fk.blk.set 1 _, ?_⟩, ?_, ?_, D8.out.new, D8.out.chs.thenBut B6 (.inl (.inl rfl)), fun k hk => ?_, D8.out.off⟩
    · rw [HL4.out]
      refine row_same (Vw.row0 V8.out) (fun k hk => B6.block k ?_)
      obtain ⟨cs, hc⟩ := row_lies V8.out hk
      exact hne hc (by decide)
    · refine row_same D8.out.row (fun k hk => B6.block k ?_)
      obtain ⟨cs, hc⟩ := row_lies D8.out.row hk
      exact hne hc (by decide)
    · exact D8.out.gb.but B6 (hne D8.out.gb (by decide))
    · right
      have h1 := row_ge V8.out hk
      have h2 := D2'.out.chs.size
      have h3 := Y4.out.size
      omega)
  have G76 : Hid (Blk (w8.setCell ⟨r, 1, none⟩ (.slice a4 L4 c4)) g7 135 [.string n, .string (str xs)]) := hide ((G7.out.on Z8.out).but B6 ((G7.out.on Z8.out).apart D8.out.fk.blk (by decide)))
  have N7 : Hid (∀ k, (Value.slice a4 L4 c4).ownBlock = some k → k ≠ g7) := hide (fun k hk e => by
    have h1 := row_ge V8.out hk
    have h2 := G7.out.lt
    omega)
  revert D6 G76
  generalize w8.setCell ⟨r, 1, none⟩ (.slice a4 L4 c4) = w6
  intro D6 G76
  clear k1 k2 hix hHeld f1a f1b B6 V8 Z8 Y8 D8 V29 Z7 V0 Z5 Z0 HC14 HVT HVF HTO HFR
  have c0 : w6.cell? ⟨g3, 0, none⟩ = some (.int .i64 5) := D6.out.r0
  have c44 : w6.cell? ⟨g3, 4, none⟩ = some (.string t) := D6.out.r4
  go_wp2_with (go_at_call 70; refine (HFD2.out _ _ D6.out.fk).mono ?_; rintro e w8 ⟨rfl, hb8⟩; have D8 := hide (D6.out.below hb8); have G78 := hide (G76.out.on hb8); clear hb8)
  clear c0 c44 HFD2
  have HC4 : Hid (∀ z : World, Below w8.heap.size w8 z → z.cell? ⟨g3, 4, none⟩ = some (.string t)) := hide (fun z hz => (D8.out.below hz).r4)
  have HC7 : Hid (∀ z : World, Below w8.heap.size w8 z → z.cell? ⟨g7, 1, none⟩ = some (.string (str xs))) := hide (fun z hz => by rw [(G78.out.on hz).cell]; rfl)
  have HC8 : Hid (∀ z : World, Below w8.heap.size w8 z → z.cell? ⟨r, 1, none⟩ = some (.slice a4 L4 c4)) := hide (fun z hz => (D8.out.below hz).c1)
  have D8' := D8
  rw [HAB2.out] at D8'
  obtain ⟨g', cap', hfv2, hcells2⟩ := D8'.out.at'
  have hL42 : (A2 ++ (t, ys) :: B2).length = L4 := by rw [← HAB2.out, HL4.out]
  have HFV2 := hide hfv2
  injection hfv2 with e1 e2 e3
  clear e2
  subst e1 e3
  have HIX2 : Hid (∀ z : World, (Instr.indexAt 104 (.slice (some ⟨g', 0, none⟩) L4 c4) (.int .i64 (J : Int))).run Tryz.prog z = .ok (.pointer (some ⟨g', J * 2, none⟩)) z) := hide (fun z => vw_at rFi g' L4 c4 J (by rw [← hL42, ← HJ.out]; simp) z)
  have HCB2 : Hid (∀ z : World, Below w8.heap.size w8 z → z.cell? ⟨g', J * 2 + 1, none⟩ = some (.string (str ys))) := hide (fun z hz => by rw [← HJ.out]; exact (hcells2 z hz).2.1)
  have HFZ2 : Hid (∀ z : World, Below w8.heap.size w8 z → z.frozen? ⟨g', J * 2 + 1, none⟩ = false) := hide (fun z hz => by rw [← HJ.out]; exact (hcells2 z hz).2.2.1)
  clear hcells2 hL42
  refine wp_region_noPanic ?_
  refine wp_region_U (q := 9) (S := fun z : World => Below w8.heap.size w8 z) (by kernel_rfl) ?_
  have Z0 := hide ((Below.refl w8.heap.size w8).drew)
  have hHeld := Z0.out
  refine takeU 9 0 127 (.pointer (some ⟨r, 0, none⟩)) hHeld rfl rfl (by kernel_rfl) (by kernel_rfl) (by kernel_rfl) (by kernel_rfl) (by kernel_rfl) (by kernel_rfl) (fun _ _ _ h => h) (Or.inl ⟨by rfl, fun w _ => by go_simp⟩) ?_
  simp only [Act.put, List.setIfInBounds_toArray, List.set_cons_zero, List.set_cons_succ]
  refine takeU 9 1 128 (.pointer (some ⟨r, 0, none⟩)) hHeld rfl rfl (by kernel_rfl) (by kernel_rfl) (by kernel_rfl) (by kernel_rfl) (by kernel_rfl) (by kernel_rfl) (fun _ _ _ h => h) (Or.inl ⟨by rfl, fun w _ => by go_simp⟩) ?_
  simp only [Act.put, List.setIfInBounds_toArray, List.set_cons_zero, List.set_cons_succ]
  refine takeU 9 2 129 (.pointer (some ⟨r, 1, none⟩)) hHeld rfl rfl (by kernel_rfl) (by kernel_rfl) (by kernel_rfl) (by kernel_rfl) (by kernel_rfl) (by kernel_rfl) (fun _ _ _ h => h) (Or.inl ⟨by rfl, fun w _ => by go_simp⟩) ?_
  simp only [Act.put, List.setIfInBounds_toArray, List.set_cons_zero, List.set_cons_succ]
  refine takeU 9 3 130 (.slice (some ⟨g', 0, none⟩) L4 c4) hHeld rfl rfl (by kernel_rfl) (by kernel_rfl) (by kernel_rfl) (by kernel_rfl) (by kernel_rfl) (by kernel_rfl) (fun _ _ _ h => h) (Or.inl ⟨by rfl, fun w hw => by have hw' : w.cell? ⟨r, 1, none⟩ = some (.slice (some ⟨g', 0, none⟩) L4 c4) := (fun hw => HC8.out _ hw) hw; go_simp⟩) ?_
  simp only [Act.put, List.setIfInBounds_toArray, List.set_cons_zero, List.set_cons_succ]
  refine takeU 9 4 131 (.int .i64 (J : Int)) hHeld rfl rfl (by kernel_rfl) (by kernel_rfl) (by kernel_rfl) (by kernel_rfl) (by kernel_rfl) (by kernel_rfl) (fun _ _ _ h => h) (Or.inl ⟨by rfl, fun w _ => by go_simp⟩) ?_
  simp only [Act.put, List.setIfInBounds_toArray, List.set_cons_zero, List.set_cons_succ]
  refine takeU 9 5 132 (.pointer (some ⟨g7, 1, none⟩)) hHeld rfl rfl (by kernel_rfl) (by kernel_rfl) (by kernel_rfl) (by kernel_rfl) (by kernel_rfl) (by kernel_rfl) (fun _ _ _ h => h) (Or.inl ⟨by rfl, fun w _ => by go_simp⟩) ?_
  simp only [Act.put, List.setIfInBounds_toArray, List.set_cons_zero, List.set_cons_succ]
  refine takeU 9 6 133 (.string (str xs)) hHeld rfl rfl (by kernel_rfl) (by kernel_rfl) (by kernel_rfl) (by kernel_rfl) (by kernel_rfl) (by kernel_rfl) (fun _ _ _ h => h) (Or.inl ⟨by rfl, fun w hw => by have hw' : w.cell? ⟨g7, 1, none⟩ = some (.string (str xs)) := (fun hw => HC7.out _ hw) hw; go_simp⟩) ?_
  simp only [Act.put, List.setIfInBounds_toArray, List.set_cons_zero, List.set_cons_succ]
  have hix := HIX2.out
  refine wpAnyU_ready (rs := [7]) (by kernel_rfl) (by simp) (AllReadyU.cons rfl (fun K hK => ?_) AllReadyU.nil)
  rw [if_pos (by rfl)]
  go_simp
  refine hK.out _ _ (fun _ => Z0.out) ?_
  have hHeld := Z0.out
  clear hK K
  refine takeU 9 8 135 (.pointer (some ⟨g', J * 2 + 1, none⟩)) hHeld rfl rfl (by kernel_rfl) (by kernel_rfl) (by kernel_rfl) (by kernel_rfl) (by kernel_rfl) (by kernel_rfl) (fun _ _ _ h => h) (Or.inl ⟨by rfl, fun w _ => by go_simp⟩) ?_
  simp only [Act.put, List.setIfInBounds_toArray, List.set_cons_zero, List.set_cons_succ]
  have k1 := HCB2.out _ Z0.out
  have k2 := HFZ2.out _ Z0.out
  refine wpAnyU_ready (rs := [9]) (by kernel_rfl) (by simp) (AllReadyU.cons rfl (fun K hK => ?_) AllReadyU.nil)
  rw [if_pos (by rfl)]
  go_simp
  refine hK.out _ _ (fun h => absurd h (by decide)) ?_
  clear hK K
  refine wpAnyU_done (by kernel_rfl) ?_ _
  refine NoPanic.normal ?_
  have D10 : Hid (DsR w ((w8.setCell ⟨g', J * 2 + 1, none⟩ (.string (str xs))).drew) r s R (.slice (some ⟨g', 0, none⟩) L4 c4) (A2 ++ (t, xs) :: B2) (rRn n t) (Value.slice none 0 0) g3) := hide (by
    have := D8'.out.setF HFV2.out xs
    rw [HJ.out] at this
    exact this.below ((Below.refl _ _).drew))
  revert D10
  generalize (w8.setCell ⟨g', J * 2 + 1, none⟩ (.string (str xs))).drew = w10
  intro D10
  clear k1 k2 hix hHeld
  go_wp2_with fail
  have HRE5 : Hid (∃ q1 q2, R.qv = .slice q1 R.qs.length q2) := hide (by obtain ⟨q1, q2, hq⟩ := row_slice HH.out.row; exact ⟨q1, q2, hq⟩)
  obtain ⟨L5, hL5⟩ : ∃ L5, (R.qs ++ [(rRn n t, (Value.slice none 0 0))]).length = L5 := ⟨_, rfl⟩
  have HL5 := hide hL5
  clear hL5
  refine wp_region_noPanic ?_
  refine wp_region_U (q := 10) (S := fun z : World => z.cell? ⟨r, 2, none⟩ = some R.qv ∧ z.rangeAt g3 0 (rwC 5 n (.slice none 0 0) 0 t)) (by kernel_rfl) ?_
  have Z0 := hide ((Below.refl w10.heap.size w10).drew)
  have E0 := hide (D10.out.below Z0.out)
  have HIR : Hid ((Tryz.prog.info? 116).map (·.size) = some (rwC 5 n (.slice none 0 0) 0 t).length) := hide (by rw [wRw.size]; rfl)
  have gb0 : Blk w10.drew g3 116 (rwC 5 n (.slice none 0 0) 0 t) := E0.out.gb
  have hHeld : w10.drew.cell? ⟨r, 2, none⟩ = some R.qv ∧ w10.drew.rangeAt g3 0 (rwC 5 n (.slice none 0 0) 0 t) := ⟨E0.out.c2, gb0.range 0 _ (by simp)⟩
  clear gb0
  refine takeU 10 0 168 (.pointer (some ⟨r, 0, none⟩)) hHeld rfl rfl (by kernel_rfl) (by kernel_rfl) (by kernel_rfl) (by kernel_rfl) (by kernel_rfl) (by kernel_rfl) (fun _ _ _ h => h) (Or.inl ⟨by rfl, fun w _ => by go_simp⟩) ?_
  simp only [Act.put, List.setIfInBounds_toArray, List.set_cons_zero, List.set_cons_succ]
  refine takeU 10 1 169 (.pointer (some ⟨r, 0, none⟩)) hHeld rfl rfl (by kernel_rfl) (by kernel_rfl) (by kernel_rfl) (by kernel_rfl) (by kernel_rfl) (by kernel_rfl) (fun _ _ _ h => h) (Or.inl ⟨by rfl, fun w _ => by go_simp⟩) ?_
  simp only [Act.put, List.setIfInBounds_toArray, List.set_cons_zero, List.set_cons_succ]
  refine takeU 10 2 170 (.pointer (some ⟨r, 0, none⟩)) hHeld rfl rfl (by kernel_rfl) (by kernel_rfl) (by kernel_rfl) (by kernel_rfl) (by kernel_rfl) (by kernel_rfl) (fun _ _ _ h => h) (Or.inl ⟨by rfl, fun w _ => by go_simp⟩) ?_
  simp only [Act.put, List.setIfInBounds_toArray, List.set_cons_zero, List.set_cons_succ]
  refine takeU 10 3 171 (.pointer (some ⟨r, 2, none⟩)) hHeld rfl rfl (by kernel_rfl) (by kernel_rfl) (by kernel_rfl) (by kernel_rfl) (by kernel_rfl) (by kernel_rfl) (fun _ _ _ h => h) (Or.inl ⟨by rfl, fun w _ => by go_simp⟩) ?_
  simp only [Act.put, List.setIfInBounds_toArray, List.set_cons_zero, List.set_cons_succ]
  refine takeU 10 4 172 (R.qv) hHeld rfl rfl (by kernel_rfl) (by kernel_rfl) (by kernel_rfl) (by kernel_rfl) (by kernel_rfl) (by kernel_rfl) (fun _ _ _ h => h) (Or.inl ⟨by rfl, fun w hw => by have hw' : w.cell? ⟨r, 2, none⟩ = some (R.qv) := (fun h => h.1) hw; go_simp⟩) ?_
  simp only [Act.put, List.setIfInBounds_toArray, List.set_cons_zero, List.set_cons_succ]
  refine takeU 10 5 173 (.agg (rwC 5 n (.slice none 0 0) 0 t).toArray) hHeld rfl rfl (by kernel_rfl) (by kernel_rfl) (by kernel_rfl) (by kernel_rfl) (by kernel_rfl) (by kernel_rfl) (fun _ _ _ h => h) (yieldsIf_load_mid (by rfl) _ _ rfl g3 0 rfl _ _ (fun w h => h.2) Tryz.underlying116 rfl HIR.out) ?_
  simp only [Act.put, List.setIfInBounds_toArray, List.set_cons_zero, List.set_cons_succ]
  refine wpAnyU_ready (rs := [6]) (by kernel_rfl) (by simp) (AllReadyU.cons rfl (fun K hK => ?_) AllReadyU.nil)
  rw [if_pos (by rfl)]
  refine wp_oneR (r := rRn n t) (v := (Value.slice none 0 0)) ⟨_, _, _, rfl⟩ rfl ?_
  intro w4 u4 hu4 hb4
  have E4 := hide (E0.out.below hb4)
  have HU4 := hide hu4
  have gb0 : Blk w4 g3 116 (rwC 5 n (.slice none 0 0) 0 t) := E4.out.gb
  have hH4 : w4.cell? ⟨r, 2, none⟩ = some R.qv ∧ w4.rangeAt g3 0 (rwC 5 n (.slice none 0 0) 0 t) := ⟨E4.out.c2, gb0.range 0 _ (by simp)⟩
  clear gb0
  refine hK.out _ _ (fun _ => hH4) ?_
  have hHeld := hH4
  clear hK K
  clear hu4 hb4 hH4
  simp only [Act.put]
  refine wpAnyU_ready (rs := [7]) (by kernel_rfl) (by simp) (AllReadyU.cons rfl (fun K hK => ?_) AllReadyU.nil)
  rw [if_pos (by rfl)]
  refine wp_appV rRw rfl rfl E4.out.row HU4.out (rwsC_one _ (fun x hx => by simp at hx; subst hx; exact ⟨_, _, _, rfl⟩)) (by have := HRL.out; omega) (Nat.zero_le _) ?_
  intro qv5 w5 hrow5 hgr5 hat5
  have hne5 : ∀ k, R.qv.ownBlock = some k → k ≠ r := fun k hk e => by
    obtain ⟨cs, hc⟩ := row_lies E4.out.row hk
    exact hc.apart E4.out.fk.blk (by decide) e
  have hnf5 : ∀ k, (Value.slice (some ⟨g', 0, none⟩) L4 c4).ownBlock = some k → R.qv.ownBlock ≠ some k := fun k hk e => by
    obtain ⟨cs, hc⟩ := row_lies E4.out.row e
    obtain ⟨cs', hc'⟩ := row_lies E4.out.fk.row hk
    exact hc.apart hc' (by decide) rfl
  have DK5 : Hid (Blk w5 r 107 (rkC s (Value.slice (some ⟨g', 0, none⟩) L4 c4) R.qv)) := hide (E4.out.fk.blk.same (hgr5.block r E4.out.fk.blk.lt (fun e => hne5 r e.symm rfl)))
  have G5 : Hid (Blk w5 g3 116 (rwC 5 n (.slice none 0 0) 0 t)) := hide (Blk.same E4.out.gb (hgr5.block g3 E4.out.gb.lt (fun e => E4.out.off e.symm)))
  have F5 : Hid (w5.ownsRow 0 135 2 (Value.slice (some ⟨g', 0, none⟩) L4 c4) (A2 ++ (t, xs) :: B2).length (filC ((A2 ++ (t, xs) :: B2)))) := hide (row_same E4.out.fk.row (fun k hk => by
    obtain ⟨cs, hc⟩ := row_lies E4.out.fk.row hk
    exact hgr5.block k hc.lt (fun e => hnf5 k hk e.symm)))
  have CH5 : Hid (Chs (R.own r) w w5) := hide (E4.out.chs.thenGrown hgr5 (fun k hk => .inl (.inr (.inr hk))))
  have LQ5 : Hid (∀ k, qv5.ownBlock = some k → R.own r k ∨ w.heap.size ≤ k) := hide (fun k hk => by
    rcases hat5 with e | e
    · exact .inl (.inr (.inr (by rw [e] at hk; exact hk)))
    · rw [e] at hk
      injection hk with hk
      have := E4.out.chs.size
      right
      omega)
  have ROW5 : Hid (w5.ownsRow 0 116 5 qv5 L5 (rwsC (R.qs ++ [(rRn n t, (Value.slice none 0 0))]))) := hide (by rw [rwsC_app, ← HL5.out, List.length_append]; exact hrow5)
  obtain ⟨qa5, qc5, hqe5⟩ := row_slice ROW5.out
  subst hqe5
  have k1 : w5.cell? ⟨r, 2, none⟩ = some R.qv := by rw [DK5.out.cell]; rfl
  have k2 : w5.frozen? ⟨r, 2, none⟩ = false := DK5.out.free 2
  have hH5 : w5.cell? ⟨r, 2, none⟩ = some R.qv ∧ w5.rangeAt g3 0 (rwC 5 n (.slice none 0 0) 0 t) := ⟨k1, G5.out.range 0 _ (by simp)⟩
  refine hK.out _ _ (fun _ => hH5) ?_
  have hHeld := hH5
  clear hK K
  clear hrow5 hgr5 hat5 hne5 hnf5
  simp only [Act.put]
  refine wpAnyU_ready (rs := [8]) (by kernel_rfl) (by simp) (AllReadyU.cons rfl (fun K hK => ?_) AllReadyU.nil)
  rw [if_pos (by rfl)]
  go_simp
  refine hK.out _ _ (fun _ => hH5) ?_
  have hHeld := hH5
  clear hK K
  clear hH5
  refine takeU 10 9 177 (.pointer (some ⟨r, 2, none⟩)) hHeld rfl rfl (by kernel_rfl) (by kernel_rfl) (by kernel_rfl) (by kernel_rfl) (by kernel_rfl) (by kernel_rfl) (fun _ _ _ h => h) (Or.inl ⟨by rfl, fun w _ => by go_simp⟩) ?_
  simp only [Act.put, List.setIfInBounds_toArray, List.set_cons_zero, List.set_cons_succ]
  refine wpAnyU_ready (rs := [10]) (by kernel_rfl) (by simp) (AllReadyU.cons rfl (fun K hK => ?_) AllReadyU.nil)
  rw [if_pos (by rfl)]
  go_simp
  refine hK.out _ _ (fun h => absurd h (by decide)) ?_
  clear hK K
  refine wpAnyU_done (by kernel_rfl) ?_ _
  refine NoPanic.normal ?_
  have B6 := But.setCell w5 r 2 (.slice qa5 L5 qc5)
  have FK6 : FkAt (w5.setCell ⟨r, 2, none⟩ (.slice qa5 L5 qc5)) r s (Value.slice (some ⟨g', 0, none⟩) L4 c4) (.slice qa5 L5 qc5) ((A2 ++ (t, xs) :: B2)) := ⟨DK5.out.set 2 _, row_same F5.out (fun k hk => B6.block k (fun e => by
    obtain ⟨cs, hc⟩ := row_lies F5.out hk
    exact hc.apart DK5.out (by decide) e))⟩
  have hres : RoR w (w5.setCell ⟨r, 2, none⟩ (.slice qa5 L5 qc5)) r s R (rs ++ [rRn n t]) (Value.slice none 0 0) := DsR.done HH.out HLR.out HV.out (by exact HFL.out) HLN.out FK6 (by rw [HL5.out]; exact row_same ROW5.out (fun k hk => B6.block k (fun e => by
    obtain ⟨cs, hc⟩ := row_lies ROW5.out hk
    exact hc.apart DK5.out (by decide) e))) (CH5.out.thenBut B6 (.inl (.inl rfl))) D10.out.lie LQ5.out rfl
  revert hres
  generalize w5.setCell ⟨r, 2, none⟩ (.slice qa5 L5 qc5) = w6
  intro hres
  have HRES := hide hres
  clear hres
  go_wp2
  go_end0
  exact ⟨rfl, HRES.out⟩
end

end Go.Proofs.YtlgcjdgcgnlcaaaGreatDoor

/-
  The document's disk: do whole, New, wrong, Create, All, Cut, Remove, Rename, Read.
-/
namespace Go.Proofs.YtlgcjdgcgnlcaaaGreatDoor
open Go.RowKit
set_option linter.unusedVariables false

theorem BV.nil {w : World} {v : Value} (h : BV w v []) : v = .slice none 0 0 := by
  rcases h with ⟨h, _⟩ | ⟨b, o, l, c, rfl, h0, hs, _⟩
  · exact h
  · have := hs.hlen
    simp at this
    omega
theorem doR_any (r s : Nat) (rs : List Rw) (R : Rm) (x : Rw) (v : Value) (w : World) (h : RkAt w r s rs R) (hx : Lraw s (play rs) x) (hv : BV w v x.b) (hwt : wt rs + x.b.length + 1 ≤ 1099511000000) :
    Calls Tryz.prog 63 #[.pointer (some ⟨r, 0, none⟩), .agg (rwC x.k x.n v x.s x.t).toArray] w fun e w' => e = .returned (.tuple #[]) ∧ RoR w w' r s R (rs ++ [x]) v := by
  obtain ⟨hl, hfit⟩ := hx
  rcases hl with ⟨n, rfl, hn, hf⟩ | ⟨n, b, xs, rfl, hn, hf, hb, hB⟩ | ⟨n, k, xs, rfl, hn, hf, h0, h1⟩ | ⟨n, xs, rfl, hn, hf⟩ | ⟨n, t, xs, rfl, hn, ht, hf, hnt⟩
  · have e := BV.nil hv
    subst e
    exact doR_cr r s rs R n w h hn (by simp [rCr] at hwt; omega) hf hv
  · have hxs : fl (play rs) n = xs := by simp [fl, hf]
    have h2 := hfit rfl
    change (fl (play rs) n).length % s + b.length ≤ s at h2
    rw [hxs] at h2
    exact doR_ap r s rs R n w h hn v b xs hf hb hB h2 hwt hv
  · have e := BV.nil hv
    subst e
    exact doR_cu r s rs R n w h hn k xs hf h0 h1 (by simp [rCu] at hwt; omega) hv
  · have e := BV.nil hv
    subst e
    exact doR_rm r s rs R n w h hn (by simp [rRm] at hwt; omega) xs hf hv
  · have e := BV.nil hv
    subst e
    cases hp : play rs t with
    | none => exact doR_rn0 r s rs R n t w h hn ht hnt (by simp [rRn] at hwt; omega) xs hf hv hp
    | some ys => exact doR_rn1 r s rs R n t w h hn ht hnt (by simp [rRn] at hwt; omega) xs hf hv ys hp

/-- What a call that writes leaves of the document's disk. -/
def RoP (w w' : World) (r s : Nat) (R : Rm) (rs' : List Rw) : Prop :=
  ∃ R', RkAt w' r s rs' R' ∧ Chs (R.own r) w w' ∧ (∀ k, R'.own r k → R.own r k ∨ w.heap.size ≤ k) ∧ (∀ k, R'.ro k → R.ro k ∨ w.heap.size ≤ k)
theorem RoP.below {w w' : World} {r s : Nat} {R : Rm} {rs : List Rw} (h : RkAt w r s rs R) (hb : Below w.heap.size w w') : RoP w w' r s R rs := ⟨R, h.below hb, Chs.of_below _ hb, fun k hk => .inl hk, fun k hk => .inl hk⟩
theorem RoR.op {w w1 w' : World} {r s : Nat} {R : Rm} {rs' : List Rw} {v : Value} (hb : Below w.heap.size w w1) (hv : ∀ k, v.ownBlock = some k → w.heap.size ≤ k) (h : RoR w1 w' r s R rs' v) : RoP w w' r s R rs' := by
  obtain ⟨R', h1, h2, h3, h4⟩ := h
  have hsz := hb.size
  exact ⟨R', h1, (Chs.of_below _ hb).after h2 (fun k hk => .inl hk), fun k hk => (h3 k hk).imp id (fun h => Nat.le_trans hsz h), fun k hk => (h4 k hk).imp id (hv k)⟩
theorem novb (k w : Nat) (h : (Value.slice none 0 0).ownBlock = some k) : w ≤ k := by cases h

theorem zRk : Zeroed 107 (rkC 0 (.slice none 0 0) (.slice none 0 0)) := fun _ _ _ _ _ _ _ => by kernel_rfl
section
variable {dst : Option Tmp} {ty : TypeId} {pos : String} {aft : Array Edge} {gd : Option (Nat × Bool)} {ops : Array Oper} {rest : List Oper} {a : Act} {w : World} {Q : Exit → Act → World → Prop}
theorem step_bRk {x : Operand} {k : Int} (hw : Region.wanted ⟨dst, .build 107 #[(0, x)], ty, pos, aft, gd⟩ (yielded ops a.tmps) = true) (hx : a.eval x = .int .i64 k)
    (h : wpList Tryz.prog ops Q rest (a.put dst (.agg (rkC k (.slice none 0 0) (.slice none 0 0)).toArray)) w) : wpList Tryz.prog ops Q (⟨dst, .build 107 #[(0, x)], ty, pos, aft, gd⟩ :: rest) a w :=
  step_run hw _ w (run_op (M := Instr.build 107 #[(0, .int .i64 k)]) (by simp [execOp, hx]) (by kernel_rfl)) h
end
def rm0 : Rm := ⟨.slice none 0 0, .slice none 0 0, [], []⟩
theorem RkAt.new {w : World} {g s : Nat} (h : Blk w g 107 (rkC s (.slice none 0 0) (.slice none 0 0))) (h1 : 1 ≤ s) (h2 : s ≤ 4096) : RkAt w g s [] rm0 :=
  ⟨h1, h2, ⟨h, World.ownsRow_nil _ _ _ _⟩, World.ownsRow_nil _ _ _ _, (fun x hx => by cases hx), rfl, FL.nil, trivial, Nat.le_refl _⟩
theorem rm0_own {g B : Nat} (hg : B ≤ g) : ∀ k, rm0.own g k → B ≤ k := fun k hk => by
  rcases hk with rfl | hk | hk
  · exact hg
  · cases hk
  · cases hk
theorem newR_bad (s : Int) (w : World) (h : s < 1 ∨ 4096 < s) : Calls Tryz.prog 25 #[.int .i64 s] w fun e w' => e = .returned (.tuple #[.pointer none, .int .i64 2]) ∧ w' = w := by
  by_cases h1 : s < 1
  · go_enter Tryz.func25, Tryz.ntmps25
    go_wp2
    go_ret2
    exact ⟨rfl, rfl⟩
  · have h2 : 4096 < s := by omega
    go_enter Tryz.func25, Tryz.ntmps25
    go_wp2
    go_ret2
    exact ⟨rfl, rfl⟩
theorem newR_ok (s : Nat) (w : World) (h1 : 1 ≤ s) (h2 : s ≤ 4096) : Calls Tryz.prog 25 #[.int .i64 (s : Int)] w fun e w' => ∃ g, e = .returned (.tuple #[.pointer (some ⟨g, 0, none⟩), .int .i64 0]) ∧ RkAt w' g s [] rm0 ∧ w.heap.size ≤ g ∧ Below w.heap.size w w' := by
  have h3 : ¬ (s : Int) < 1 := by omega
  have h4 : ¬ 4096 < (s : Int) := by omega
  go_enter Tryz.func25, Tryz.ntmps25
  go_wp2_with (first | (refine step_bRk rfl rfl ?_) | (refine step_box (cs := rkC s (.slice none 0 0) (.slice none 0 0)) rfl rfl ?_; intro w1 g hg hl hb))
  go_ret2
  exact ⟨g, rfl, RkAt.new hg h1 h2, hl, hb⟩

section
variable (r s : Nat) (rs : List Rw) (R : Rm) (w : World) (h : RkAt w r s rs R)
include h
theorem RkAt.few2 (hwt : wt rs ≤ 1099511000000) : R.l.length ≤ 1099511000000 := by have h1 := h.few; have h2 := len_wt rs; omega
set_option maxRecDepth 100000 in
theorem wrong_t (n : ByteArray) (hwt : wt rs ≤ 1099511000000) : Calls Tryz.prog 62 #[.pointer (some ⟨r, 0, none⟩), .string n, .bool true] w fun e w' => e = .returned (.int .i64 (fE rs n)) ∧ Below w.heap.size w w' := by
  have hfew := h.few2 r s rs R w hwt
  have HFD : Hid (∀ W : World, FkAt W r s R.fv R.qv R.l → Calls Tryz.prog 70 #[.pointer (some ⟨r, 0, none⟩), .string n] W fun e w' => e = .returned (.tuple #[.int .i64 (posF R.l n : Nat), .bool (play rs n).isSome]) ∧ Below W.heap.size W w') := hide (fun W hW => find_any r s R.fv R.qv R.l (play rs) n W hW h.fls hfew)
  have HK := hide h.fk
  clear h hfew hwt
  generalize posF R.l n = I at HFD
  by_cases hn : nmB n = true
  · cases hf : (play rs n).isSome with
    | true =>
      have e0 : fE rs n = 0 := by simp [fE, hn, hf]
      rw [e0]
      rw [hf] at HFD
      clear e0 hf
      go_enter Tryz.func62, Tryz.ntmps62
      go_wp2_with (first | (go_at_call 88; refine (nameR_any _ _).mono ?_; rintro e w ⟨rfl, rfl⟩) | (go_at_call 70; refine (HFD.out _ HK.out).mono ?_; rintro e w2 ⟨rfl, hb2⟩))
      go_ret
      exact ⟨rfl, hb2⟩
    | false =>
      have e0 : fE rs n = 121 := by simp [fE, hn, hf]
      rw [e0]
      rw [hf] at HFD
      clear e0 hf
      go_enter Tryz.func62, Tryz.ntmps62
      go_wp2_with (first | (go_at_call 88; refine (nameR_any _ _).mono ?_; rintro e w ⟨rfl, rfl⟩) | (go_at_call 70; refine (HFD.out _ HK.out).mono ?_; rintro e w2 ⟨rfl, hb2⟩))
      go_ret
      exact ⟨rfl, hb2⟩
  · have hn' : nmB n = false := by simpa using hn
    have e0 : fE rs n = 2 := by simp [fE, hn']
    rw [e0]
    clear e0 hn
    go_enter Tryz.func62, Tryz.ntmps62
    go_wp2_with (first | (go_at_call 88; refine (nameR_any _ _).mono ?_; rintro e w ⟨rfl, rfl⟩))
    go_ret
    exact ⟨rfl, Below.refl _ _⟩
set_option maxRecDepth 100000 in
theorem wrong_f (n : ByteArray) (hwt : wt rs ≤ 1099511000000) : Calls Tryz.prog 62 #[.pointer (some ⟨r, 0, none⟩), .string n, .bool false] w fun e w' => e = .returned (.int .i64 (crE rs n)) ∧ Below w.heap.size w w' := by
  have hfew := h.few2 r s rs R w hwt
  have HFD : Hid (∀ W : World, FkAt W r s R.fv R.qv R.l → Calls Tryz.prog 70 #[.pointer (some ⟨r, 0, none⟩), .string n] W fun e w' => e = .returned (.tuple #[.int .i64 (posF R.l n : Nat), .bool (play rs n).isSome]) ∧ Below W.heap.size W w') := hide (fun W hW => find_any r s R.fv R.qv R.l (play rs) n W hW h.fls hfew)
  have HK := hide h.fk
  clear h hfew hwt
  generalize posF R.l n = I at HFD
  by_cases hn : nmB n = true
  · cases hf : (play rs n).isSome with
    | true =>
      have e0 : crE rs n = 120 := by simp [crE, hn, hf]
      rw [e0]
      rw [hf] at HFD
      clear e0 hf
      go_enter Tryz.func62, Tryz.ntmps62
      go_wp2_with (first | (go_at_call 88; refine (nameR_any _ _).mono ?_; rintro e w ⟨rfl, rfl⟩) | (go_at_call 70; refine (HFD.out _ HK.out).mono ?_; rintro e w2 ⟨rfl, hb2⟩))
      go_ret
      exact ⟨rfl, hb2⟩
    | false =>
      have e0 : crE rs n = 0 := by simp [crE, hn, hf]
      rw [e0]
      rw [hf] at HFD
      clear e0 hf
      go_enter Tryz.func62, Tryz.ntmps62
      go_wp2_with (first | (go_at_call 88; refine (nameR_any _ _).mono ?_; rintro e w ⟨rfl, rfl⟩) | (go_at_call 70; refine (HFD.out _ HK.out).mono ?_; rintro e w2 ⟨rfl, hb2⟩))
      go_ret
      exact ⟨rfl, hb2⟩
  · have hn' : nmB n = false := by simpa using hn
    have e0 : crE rs n = 2 := by simp [crE, hn']
    rw [e0]
    clear e0 hn
    go_enter Tryz.func62, Tryz.ntmps62
    go_wp2_with (first | (go_at_call 88; refine (nameR_any _ _).mono ?_; rintro e w ⟨rfl, rfl⟩))
    go_ret
    exact ⟨rfl, Below.refl _ _⟩
set_option maxRecDepth 100000 in
theorem all_any (n : ByteArray) (hwt : wt rs ≤ 1099511000000) : Calls Tryz.prog 37 #[.pointer (some ⟨r, 0, none⟩), .string n] w fun e w' => e = .returned (.tuple #[.string (str (fl (play rs) n)), .bool (play rs n).isSome]) ∧ Below w.heap.size w w' := by
  have hfew := h.few2 r s rs R w hwt
  have HFD : Hid (∀ W : World, FkAt W r s R.fv R.qv R.l → Calls Tryz.prog 70 #[.pointer (some ⟨r, 0, none⟩), .string n] W fun e w' => e = .returned (.tuple #[.int .i64 (posF R.l n : Nat), .bool (play rs n).isSome]) ∧ Below W.heap.size W w') := hide (fun W hW => find_any r s R.fv R.qv R.l (play rs) n W hW h.fls hfew)
  have HK := hide h.fk
  obtain ⟨A, B, hAB, hA, hlt, hB⟩ := h.fls.split n
  cases hf : play rs n with
  | none =>
    have e1 : fl (play rs) n = [] := by simp [fl, hf]
    rw [e1]
    rw [hf] at HFD
    clear h hfew hwt hAB hA hlt hB e1 hf
    generalize posF R.l n = I at HFD
    go_enter Tryz.func37, Tryz.ntmps37
    go_wp2_with (go_at_call 70; refine (HFD.out _ HK.out).mono ?_; rintro e w2 ⟨rfl, hb2⟩)
    go_ret2
    exact ⟨rfl, hb2⟩
  | some xs =>
    obtain ⟨B', rfl⟩ : ∃ B', B = (n, xs) :: B' := by
      rcases hB with ⟨h1, _⟩ | ⟨ys, B', h1, h2, _⟩
      · rw [hf] at h1; cases h1
      · rw [hf] at h1
        injection h1 with h1
        subst h1
        exact ⟨B', h2⟩
    have e1 : fl (play rs) n = xs := by simp [fl, hf]
    rw [e1]
    rw [hf] at HFD
    have hx : R.l[posF R.l n]? = some (n, xs) := by rw [← hA, hAB]; simp
    have hlt2 : posF R.l n < R.l.length := (List.getElem?_eq_some_iff.1 hx).1
    obtain ⟨g, cap, cs, hfv, hg, _, _, _, _, hc1⟩ := h.fk.file hx
    have HG : Hid (Blk w g 135 cs) := hide hg
    generalize hI : posF R.l n = I at HFD hx hlt2 hc1
    have hix := vw_at rFi g R.l.length cap I hlt2
    have HC1 := hide hc1
    have HFV := hide hfv
    generalize hL : R.l.length = L at hfv hix HFV
    clear h hfew hwt hAB hA hlt hB e1 hf hx hlt2 hg hc1 hI hL
    go_enter Tryz.func37, Tryz.ntmps37
    go_wp2_with (go_at_call 70; refine (HFD.out _ HK.out).mono ?_; rintro e w2 ⟨rfl, hb2⟩; have c1 : w2.cell? ⟨r, 1, none⟩ = some (.slice (some ⟨g, 0, none⟩) L cap) := (by rw [(HK.out.blk.on hb2).cell, ← HFV.out]; rfl); have c2 : w2.cell? ⟨g, I * 2 + 1, none⟩ = some (.string (str xs)) := (by rw [(HG.out.on hb2).cell]; exact HC1.out))
    go_ret2
    exact ⟨rfl, hb2⟩
end

end Go.Proofs.YtlgcjdgcgnlcaaaGreatDoor

/-
  The document's disk: Create, Remove, Cut, Rename, Read.
-/
namespace Go.Proofs.YtlgcjdgcgnlcaaaGreatDoor
open Go.RowKit
set_option linter.unusedVariables false

theorem crE_0 {rs : List Rw} {n : ByteArray} (h : crE rs n = 0) : nmB n = true ∧ play rs n = none := by
  unfold crE at h
  by_cases hn : nmB n = true
  · refine ⟨hn, ?_⟩
    rw [if_pos hn] at h
    cases hp : play rs n with
    | none => rfl
    | some x => simp [hp] at h
  · rw [if_neg hn] at h
    omega
theorem fE_0 {rs : List Rw} {n : ByteArray} (h : fE rs n = 0) : nmB n = true ∧ ∃ xs, play rs n = some xs ∧ fl (play rs) n = xs := by
  unfold fE at h
  by_cases hn : nmB n = true
  · refine ⟨hn, ?_⟩
    rw [if_pos hn] at h
    cases hp : play rs n with
    | none => simp [hp] at h
    | some x => exact ⟨x, rfl, by simp [fl, hp]⟩
  · rw [if_neg hn] at h
    omega
section
variable (r s : Nat) (rs : List Rw) (R : Rm) (w : World) (h : RkAt w r s rs R)
include h
set_option maxRecDepth 100000 in
theorem createR_any (n : ByteArray) (hwt : wt rs + 1 ≤ 1099511000000) : Calls Tryz.prog 27 #[.pointer (some ⟨r, 0, none⟩), .string n] w fun e w' => e = .returned (.int .i64 (crE rs n)) ∧ RoP w w' r s R (crS rs n) := by
  have HW := hide hwt
  have hwr := wrong_f r s rs R w h n (by omega)
  have HWR := hide hwr
  have HH := hide h
  clear h hwr hwt
  by_cases h0 : crE rs n = 0
  · obtain ⟨hn, hf⟩ := crE_0 h0
    have HLR : Hid (Lraw s (play rs) (rCr n)) := hide ⟨.inl ⟨n, rfl, hn, hf⟩, fun h2 => by cases h2⟩
    have e1 : crS rs n = rs ++ [rCr n] := by simp [crS, h0]
    rw [e1, h0]
    rw [h0] at HWR
    clear e1 h0 hn hf
    go_enter Tryz.func27, Tryz.ntmps27
    go_wp2_with (first | (go_at_call 62; refine HWR.out.mono ?_; rintro e w2 ⟨rfl, hb2⟩) | (refine step_bR1 rfl rfl ?_))
    refine (doR_any r s rs R (rCr n) (.slice none 0 0) _ (HH.out.below hb2) HLR.out (nobv _) (by have := HW.out; show wt rs + 0 + 1 ≤ _; omega)).mono ?_
    rintro e w3 ⟨rfl, hR⟩
    go_wp2
    go_ret
    exact ⟨rfl, hR.op hb2 (fun k hk => novb k _ hk)⟩
  · have e1 : crS rs n = rs := by simp [crS, h0]
    rw [e1]
    generalize crE rs n = E at HWR h0
    clear e1
    go_enter Tryz.func27, Tryz.ntmps27
    go_wp2_with (first | (go_at_call 62; refine HWR.out.mono ?_; rintro e w2 ⟨rfl, hb2⟩))
    go_ret
    exact ⟨rfl, RoP.below HH.out hb2⟩
set_option maxRecDepth 100000 in
theorem removeR_any (n : ByteArray) (hwt : wt rs + 1 ≤ 1099511000000) : Calls Tryz.prog 43 #[.pointer (some ⟨r, 0, none⟩), .string n] w fun e w' => e = .returned (.int .i64 (fE rs n)) ∧ RoP w w' r s R (rmS rs n) := by
  have HW := hide hwt
  have hwr := wrong_t r s rs R w h n (by omega)
  have HWR := hide hwr
  have HH := hide h
  clear h hwr hwt
  by_cases h0 : fE rs n = 0
  · obtain ⟨hn, xs, hf, _⟩ := fE_0 h0
    have HLR : Hid (Lraw s (play rs) (rRm n)) := hide ⟨.inr (.inr (.inr (.inl ⟨n, xs, rfl, hn, hf⟩))), fun h2 => by cases h2⟩
    have e1 : rmS rs n = rs ++ [rRm n] := by simp [rmS, h0]
    rw [e1, h0]
    rw [h0] at HWR
    clear e1 h0 hn hf
    go_enter Tryz.func43, Tryz.ntmps43
    go_wp2_with (first | (go_at_call 62; refine HWR.out.mono ?_; rintro e w2 ⟨rfl, hb2⟩) | (refine step_bR1 rfl rfl ?_))
    refine (doR_any r s rs R (rRm n) (.slice none 0 0) _ (HH.out.below hb2) HLR.out (nobv _) (by have := HW.out; show wt rs + 0 + 1 ≤ _; omega)).mono ?_
    rintro e w3 ⟨rfl, hR⟩
    go_wp2
    go_ret
    exact ⟨rfl, hR.op hb2 (fun k hk => novb k _ hk)⟩
  · have e1 : rmS rs n = rs := by simp [rmS, h0]
    rw [e1]
    generalize fE rs n = E at HWR h0
    clear e1
    go_enter Tryz.func43, Tryz.ntmps43
    go_wp2_with (first | (go_at_call 62; refine HWR.out.mono ?_; rintro e w2 ⟨rfl, hb2⟩))
    go_ret
    exact ⟨rfl, RoP.below HH.out hb2⟩
set_option maxRecDepth 100000 in
theorem cutR_any (n : ByteArray) (k : Int) (hwt : wt rs + 1 ≤ 1099511000000) : Calls Tryz.prog 44 #[.pointer (some ⟨r, 0, none⟩), .string n, .int .i64 k] w fun e w' => e = .returned (.int .i64 (cuE rs n k)) ∧ RoP w w' r s R (cuS rs n k) := by
  have HW := hide hwt
  have hwr := wrong_t r s rs R w h n (by omega)
  have HWR := hide hwr
  have HH := hide h
  clear h hwr hwt
  by_cases h0 : fE rs n = 0
  · obtain ⟨hn, xs, hf, hfl⟩ := fE_0 h0
    rw [h0] at HWR
    have HALL : Hid (∀ W : World, RkAt W r s rs R → Calls Tryz.prog 37 #[.pointer (some ⟨r, 0, none⟩), .string n] W fun e w' => e = .returned (.tuple #[.string (str xs), .bool true]) ∧ Below W.heap.size W w') := hide (fun W hW => by
      have := all_any r s rs R W hW n (by have := HW.out; omega)
      rw [hfl, hf] at this
      exact this)
    have hsz := str_size xs
    by_cases h1 : k < 0
    · have e1 : cuE rs n k = 2 := by simp [cuE, h0, h1]
      have e2 : cuS rs n k = rs := by simp [cuS, e1]
      rw [e1, e2]
      clear e1 e2 h0 hn hf hfl
      go_enter Tryz.func44, Tryz.ntmps44
      go_wp2_with (first | (go_at_call 62; refine HWR.out.mono ?_; rintro e w2 ⟨rfl, hb2⟩) | (go_at_call 37; refine (HALL.out _ (HH.out.below hb2)).mono ?_; rintro e w3 ⟨rfl, hb3⟩))
      go_ret
      exact ⟨rfl, RoP.below HH.out (hb2.trans (hb3.mono hb2.size))⟩
    · by_cases h2 : (xs.length : Int) < k
      · have e1 : cuE rs n k = 2 := by simp [cuE, h0, hfl, h2]
        have e2 : cuS rs n k = rs := by simp [cuS, e1]
        rw [e1, e2]
        have h2' : ((str xs).size : Int) < k := by rw [hsz]; exact h2
        clear e1 e2 h0 hn hf hfl h2 hsz
        go_enter Tryz.func44, Tryz.ntmps44
        go_wp2_with (first | (go_at_call 62; refine HWR.out.mono ?_; rintro e w2 ⟨rfl, hb2⟩) | (go_at_call 37; refine (HALL.out _ (HH.out.below hb2)).mono ?_; rintro e w3 ⟨rfl, hb3⟩))
        go_ret
        exact ⟨rfl, RoP.below HH.out (hb2.trans (hb3.mono hb2.size))⟩
      · have e1 : cuE rs n k = 0 := by simp only [cuE, h0, hfl, if_true]; rw [if_neg (by omega)]
        have h2' : ¬ ((str xs).size : Int) < k := by rw [hsz]; exact h2
        by_cases h3 : k < (xs.length : Int)
        · have e2 : cuS rs n k = rs ++ [rCu n k] := by
            simp only [cuS, e1, hfl]
            rw [if_pos ⟨trivial, h3⟩]
          rw [e1, e2]
          have HLR : Hid (Lraw s (play rs) (rCu n k)) := hide ⟨.inr (.inr (.inl ⟨n, k, xs, rfl, hn, hf, by omega, h3⟩)), fun h2 => by cases h2⟩
          have h3' : k < ((str xs).size : Int) := by rw [hsz]; exact h3
          clear e1 e2 h0 hn hf hfl h2 h3 hsz
          go_enter Tryz.func44, Tryz.ntmps44
          go_wp2_with (first | (go_at_call 62; refine HWR.out.mono ?_; rintro e w2 ⟨rfl, hb2⟩) | (go_at_call 37; refine (HALL.out _ (HH.out.below hb2)).mono ?_; rintro e w3 ⟨rfl, hb3⟩) | (refine step_bR3 rfl rfl rfl ?_))
          have hb2 := hb2.trans (hb3.mono hb2.size)
          clear hb3
          refine (doR_any r s rs R (rCu n k) (.slice none 0 0) _ (HH.out.below hb2) HLR.out (nobv _) (by have := HW.out; show wt rs + 0 + 1 ≤ _; omega)).mono ?_
          rintro e w3 ⟨rfl, hR⟩
          go_wp2
          go_ret
          exact ⟨rfl, hR.op hb2 (fun k hk => novb k _ hk)⟩
        · have e2 : cuS rs n k = rs := by
            simp only [cuS, hfl]
            rw [if_neg (fun hh => h3 hh.2)]
          rw [e1, e2]
          have h3' : ¬ k < ((str xs).size : Int) := by rw [hsz]; exact h3
          clear e1 e2 h0 hn hf hfl h2 h3 hsz
          go_enter Tryz.func44, Tryz.ntmps44
          go_wp2_with (first | (go_at_call 62; refine HWR.out.mono ?_; rintro e w2 ⟨rfl, hb2⟩) | (go_at_call 37; refine (HALL.out _ (HH.out.below hb2)).mono ?_; rintro e w3 ⟨rfl, hb3⟩))
          go_ret
          exact ⟨rfl, RoP.below HH.out (hb2.trans (hb3.mono hb2.size))⟩
  · have e1 : cuE rs n k = fE rs n := by simp [cuE, h0]
    have e2 : cuS rs n k = rs := by simp [cuS, e1, h0]
    rw [e1, e2]
    generalize fE rs n = E at HWR h0
    clear e1 e2
    go_enter Tryz.func44, Tryz.ntmps44
    go_wp2_with (first | (go_at_call 62; refine HWR.out.mono ?_; rintro e w2 ⟨rfl, hb2⟩))
    go_ret
    exact ⟨rfl, RoP.below HH.out hb2⟩
end

end Go.Proofs.YtlgcjdgcgnlcaaaGreatDoor

/-
  The document's Read.
-/
namespace Go.Proofs.YtlgcjdgcgnlcaaaGreatDoor
open Go.RowKit
set_option linter.unusedVariables false

section
variable (r s : Nat) (rs : List Rw) (R : Rm) (w : World) (h : RkAt w r s rs R)
include h
end

end Go.Proofs.YtlgcjdgcgnlcaaaGreatDoor

/-
  The document's List.
-/
namespace Go.Proofs.YtlgcjdgcgnlcaaaGreatDoor
open Go.RowKit
set_option linter.unusedVariables false

set_option maxRecDepth 100000 in
set_option maxHeartbeats 1000000 in
theorem listR_any (r s : Nat) (rs : List Rw) (R : Rm) (w : World) (h : RkAt w r s rs R) (hwt : wt rs ≤ 1099511000000) :
    Calls Tryz.prog 41 #[.pointer (some ⟨r, 0, none⟩)] w fun e w' => ∃ v, e = .returned v ∧ w'.ownsRow w.heap.size 9 1 v R.l.length (nmsC R.l) ∧ Below w.heap.size w w' := by
  have hfew := h.few2 r s rs R w hwt
  obtain ⟨fa, fc, hfv⟩ := row_slice h.fk.row
  have HFV := hide hfv
  have HH := hide h
  clear h hwt hfv
  generalize hL : R.l.length = L at *
  have HL := hide hL
  clear hL
  go_enter Tryz.func41, Tryz.ntmps41
  go_wp2
  go_loopw [3, 4] (fun o i wr => ∃ k : Nat, i = .int .i64 (k : Int) ∧ k ≤ L ∧ Hid (wr.ownsRow w.heap.size 9 1 o k (nmsC (R.l.take k))) ∧ Hid (Below w.heap.size w wr)) (fun _ i _ => L - (intOf i).toNat)
  case atStart => exact ⟨0, rfl, Nat.zero_le _, hide (World.ownsRow_nil _ _ _ _), hide (Below.refl _ _)⟩
  case round =>
    obtain ⟨k, rfl, hk, HO, HB⟩ := hrel
    have hc1 : wr.cell? ⟨r, 1, none⟩ = some (.slice fa L fc) := by rw [(HH.out.fk.below HB.out).blk.cell, ← HFV.out]; rfl
    by_cases hlt : k < L
    · obtain ⟨x, hx⟩ : ∃ x, R.l[k]? = some x := ⟨_, List.getElem?_eq_getElem (by rw [HL.out]; exact hlt)⟩
      obtain ⟨g, cap, cs, e1, hg, _, _, _, hc0, _⟩ := HH.out.fk.file hx
      rw [HFV.out] at e1
      injection e1 with e1 e2 e3
      clear e2
      subst e1 e3
      have hix := vw_at rFi g L fc k hlt
      have hcell : wr.cell? ⟨g, k * 2, none⟩ = some (.string x.1) := by rw [(hg.on HB.out).cell]; exact hc0
      have hlti : (k : Int) < (L : Int) := by omega
      have HX := hide hx
      clear hg hc0 hx
      go_wp2_with (refine step_oneS rfl rfl ?_)
      intro w1 v1 hv1 hb1
      have B1 := hide (HB.out.trans (hb1.mono HB.out.size))
      have O1 := hide (row_on HO.out hb1)
      have V1 := hide hv1
      clear hb1 hv1 hc1 hcell
      go_wp2_with (refine step_appV rSt rfl rfl rfl O1.out V1.out (fun x hx => by simp at hx; subst hx; rfl) (by omega) B1.out.size ?_)
      intro v2 w2 hv2 hgr2 hat2
      have B2 := hide (B1.out.trans (grown_below hgr2 (fun k hk => row_ge O1.out hk) B1.out.size))
      have O2 : Hid (w2.ownsRow w.heap.size 9 1 v2 (k + 1) (nmsC (R.l.take (k + 1)))) := hide (by rw [nmsC_succ R.l HX.out]; exact hv2)
      clear hv2 hgr2 hat2 B1 O1 V1 HO HB
      go_wp2
      go_roundw
      case rel => exact ⟨k + 1, by go_num, by omega, O2, B2⟩
      case measure => simp [intOf]; omega
    · have hlti : ¬ (k : Int) < (L : Int) := by omega
      have e1 : k = L := by omega
      go_wp2
      go_ret
      refine ⟨_, rfl, ?_, HB.out⟩
      have := HO.out
      rw [e1, List.take_of_length_le (by rw [HL.out]; omega)] at this
      exact this

end Go.Proofs.YtlgcjdgcgnlcaaaGreatDoor
