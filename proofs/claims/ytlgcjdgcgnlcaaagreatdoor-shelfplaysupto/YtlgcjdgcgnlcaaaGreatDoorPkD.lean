/-
  Texts one behind the other: Kqh Kqi Skc Zdg Zda Spu.
-/
import Derived.Test.YtlgcjdgcgnlcaaaGreatDoorPkC
import Derived.Test.YtlgcjdgcgnlcaaaGreatDoorPkA
import Derived.Test.YtlgcjdgcgnlcaaaGreatDoorPkB
import Derived.Lib.AppendStr

/-
  The document's do: a file renamed.
-/
namespace Go.Proofs.YtlgcjdgcgnlcaaaGreatDoor
open Go.RowKit
set_option linter.unusedVariables false

section
variable (r s : Nat) (rs : List Rw) (R : Rm) (n t : ByteArray) (w : World) (h : RkAt w r s rs R) (hn : nmB n = true) (hnt' : nmB t = true) (hnt : n ≠ t) (hwt : wt rs + 1 ≤ 1099511000000) (xs : List Int) (hf : play rs n = some xs) (hv : BV w (.slice none 0 0) [])
include h hn hnt' hnt hwt hf hv
set_option maxRecDepth 100000 in
set_option maxHeartbeats 4000000 in
theorem doR_rn0 (ht : play rs t = none) : Calls Tryz.prog 63 #[.pointer (some ⟨r, 0, none⟩), .agg (rwC 5 n (.slice none 0 0) 0 t).toArray] w fun e w' => e = .returned (.tuple #[]) ∧ RoR w w' r s R (rs ++ [rRn n t]) (.slice none 0 0) := by
  obtain ⟨A, B0, hAB0, hA, hlt, hB⟩ := h.fls.split n
  obtain ⟨I, hI⟩ : ∃ I, A.length = I := ⟨_, rfl⟩
  obtain ⟨B, hBB, hB2⟩ : ∃ B, B0 = (n, xs) :: B ∧ ∀ b ∈ B, blt n b.1 = true := by
    rcases hB with ⟨h1, _⟩ | ⟨ys, B', h1, h2, h3⟩
    · rw [hf] at h1; cases h1
    · rw [hf] at h1
      injection h1 with h1
      subst h1
      exact ⟨B', h2, h3⟩
  subst hBB
  have hAB := hAB0
  have hxs : fl (play rs) n = xs := by simp [fl, hf]
  have HLR : Hid (Lraw s (play rs) (rRn n t)) := hide ⟨.inr (.inr (.inr (.inr ⟨n, t, xs, rfl, hn, hnt', hf, hnt⟩))), fun h2 => by cases h2⟩
  have hF2 : FL (upd (play rs) n none) (A ++ B) := by
    have := h.fls
    rw [hAB] at this
    exact this.turn hlt hB2
  obtain ⟨A2, B3, hAB3, hA2, hlt2, hB3⟩ := hF2.split t
  obtain ⟨J, hJ⟩ : ∃ J, A2.length = J := ⟨_, rfl⟩
  have htf : upd (play rs) n none t = play rs t := upd_ne _ _ (Ne.symm hnt)
  rw [htf] at hB3
  obtain ⟨B2, hBB2, hB4⟩ : ∃ B2, B3 = B2 ∧ ∀ b ∈ B2, blt t b.1 = true := by
    rcases hB3 with ⟨_, h2⟩ | ⟨ys, B', h1, _⟩
    · exact ⟨_, rfl, h2⟩
    · rw [ht] at h1; cases h1
  subst hBB2
  have HFL : Hid (FL (doR (play rs) (rRn n t)) ((A2 ++ [(t, xs)]) ++ B3)) := hide (by
    have h3 := hF2
    rw [hAB3] at h3
    have h4 := h3.put hlt2 hB4 xs
    rw [ren_upd _ hnt] at h4
    rw [do_rn, hxs, List.append_assoc]
    exact h4)
  have hlen : (A ++ B).length = (A2 ++ B3).length := by rw [hAB3]
  have HLN : Hid (((A2 ++ [(t, xs)]) ++ B3).length ≤ rs.length + 1) := hide (by
    have := h.few
    rw [hAB] at this
    simp at this hlen ⊢
    omega)
  have HLA2 : Hid ((A ++ B).length ≤ 1099511000000) := hide (by have h1 := h.few; rw [hAB] at h1; have h2 := len_wt rs; simp at h1 ⊢; omega)
  have HFD2 : Hid (∀ (fv : Value) (W : World), FkAt W r s fv R.qv (A ++ B) → Calls Tryz.prog 70 #[.pointer (some ⟨r, 0, none⟩), .string t] W fun e w' => e = .returned (.tuple #[.int .i64 (J : Int), .bool false]) ∧ Below W.heap.size W w') := hide (fun fv W hW => by
    have := find_any r s fv R.qv (A ++ B) (upd (play rs) n none) t W hW hF2 HLA2.out
    rw [← hA2, hJ, htf, ht] at this
    exact this)
  have HAB2 := hide hAB3
  have HJ := hide hJ
  clear hB hB2 hn hAB0 hxs hF2 hAB3 hA2 hlt2 hB3 hJ htf hB4 hlen hnt'
  obtain ⟨fa, fc, hfe⟩ := row_slice h.fk.row
  have HH := hide h
  have HL : Hid (R.l.length ≤ 1099511000000) := hide (by have h1 := h.few; have h2 := len_wt rs; omega)
  have hrl : R.qs.length = rs.length := by rw [← h.raw]; simp
  have HRL : Hid (R.qs.length ≤ 1099511000000) := hide (by have h2 := len_wt rs; omega)
  clear hrl
  have HFE := hide hfe
  have HAB := hide hAB
  have HA := hide hA
  have HLTA := hide hlt
  have HV := hide hv
  have hfind : ∀ (W : World), FkAt W r s R.fv R.qv R.l → Calls Tryz.prog 70 #[.pointer (some ⟨r, 0, none⟩), .string n] W fun e w' => e = .returned (.tuple #[.int .i64 (I : Int), .bool true]) ∧ Below W.heap.size W w' := fun W hW => by
    have := find_any r s R.fv R.qv R.l (play rs) n W hW h.fls HL.out
    rw [← hA, hI, hf] at this
    exact this
  have HFD := hide hfind
  clear h hAB hA hlt hv hfe hfind hwt
  go_enter Tryz.func63, Tryz.ntmps63
  go_wp2_with (refine step_box (cs := rwC 5 n (.slice none 0 0) 0 t) rfl rfl ?_)
  intro w1 g3 hg3 hle3 hb1
  have D1 : Hid (DsR w w1 r s R R.fv R.l (rRn n t) (Value.slice none 0 0) g3) := hide (HH.out.ds hb1 hg3 hle3)
  have c1 : w1.cell? ⟨g3, 1, none⟩ = some (.string n) := D1.out.r1
  clear hg3 hle3 hb1
  go_upto_region 12 with (go_at_call 70; refine (HFD.out _ D1.out.fk).mono ?_; rintro e w2 ⟨rfl, hb2⟩; have D2 := hide (D1.out.below hb2); have c0 : w2.cell? ⟨g3, 0, none⟩ = some (.int .i64 5) := D2.out.r0; clear c1 D1 hb2)
  clear HFD
  have D2' := D2
  rw [HAB.out] at D2'
  obtain ⟨g, cap, hfv, hcells⟩ := D2'.out.at'
  have HFV := hide hfv
  obtain ⟨L, hL⟩ : ∃ L, (A ++ (n, xs) :: B).length = L := ⟨_, rfl⟩
  rw [hL] at hfv
  have HIX : Hid (∀ z : World, (Instr.indexAt 104 (.slice (some ⟨g, 0, none⟩) L cap) (.int .i64 (I : Int))).run Tryz.prog z = .ok (.pointer (some ⟨g, I * 2, none⟩)) z) := hide (fun z => vw_at rFi g L cap I (by rw [← hL, ← hI]; simp) z)
  have HC1 : Hid (∀ z : World, Below w2.heap.size w2 z → z.cell? ⟨r, 1, none⟩ = some (.slice (some ⟨g, 0, none⟩) L cap)) := hide (fun z hz => by rw [← hfv]; exact (D2.out.below hz).c1)
  have HCB : Hid (∀ z : World, Below w2.heap.size w2 z → z.cell? ⟨g, I * 2 + 1, none⟩ = some (.string (str xs))) := hide (fun z hz => by rw [← hI]; exact (hcells z hz).2.1)
  have HFZ : Hid (∀ z : World, Below w2.heap.size w2 z → z.frozen? ⟨g, I * 2 + 1, none⟩ = false) := hide (fun z hz => by rw [← hI]; exact (hcells z hz).2.2.1)
  have HRG : Hid (∀ z : World, Below w2.heap.size w2 z → z.rangeAt g (I * 2) [.string n, .string (str xs)]) := hide (fun z hz => by rw [← hI]; exact (hcells z hz).2.2.2)
  have HLL := hide hL
  have HII := hide hI
  clear hfv hcells hL c0 hI
  obtain ⟨vA, hto, hvt⟩ := (Vw.of_row D2'.out.fk.row).to rFi (k := I) (by rw [← HII.out]; simp)
  obtain ⟨vB, hfr, hvf⟩ := (Vw.of_row D2'.out.fk.row).from rFi (k := I + 1) (by rw [← HII.out]; simp)
  rw [HFV.out, HLL.out] at hto hfr
  have HTO := hide hto
  have hfr' : ∀ W : World, (Instr.slice 104 (.slice (some ⟨g, 0, none⟩) L cap) (some (.int .i64 ((I : Int) + 1))) none none).run Tryz.prog W = .ok vB W := fun W => by have := hfr W; push_cast at this; exact this
  have HFR := hide hfr'
  have HIB : Hid ((I : Int) + 1 ≤ 1099511000001) := hide (by have h1 := HL.out; rw [HAB.out, List.length_append] at h1; have h2 := HII.out; omega)
  have c1 := HC1.out _ (Below.refl _ _)
  have hix := HIX.out
  clear hto hfr hfr'
  go_wp2_with (first | (refine step_loadR wFi rfl rfl [.string n, .string (str xs)] (HRG.out _ (Below.refl _ _)) rfl ?_) | (refine step_alloc zFi rfl ?_))
  intro w3 g7 hg7 hle7 hb3
  go_wp2_with (refine step_storeA wFi rfl rfl rfl hg7 rfl (One.fi _ _) rfl ?_)
  intro w4 hg7' hbut4
  have Y4 := hide (hb3.trans (hbut4.below hle7))
  have G7 := hide hg7'
  have L7 := hide hle7
  have HVT : Hid (∀ z : World, Below w4.heap.size w4 z → Vw z 135 2 vA A.length (filC A)) := hide (fun z hz => by
    have hz2 := Y4.out.trans (hz.mono Y4.out.size)
    have := hvt z (Vw.of_row (D2'.out.below hz2).fk.row)
    rw [← filC_take, ← HII.out, List.take_left' rfl] at this
    exact this)
  have HVF : Hid (∀ z : World, Below w4.heap.size w4 z → Vw z 135 2 vB B.length (filC B)) := hide (fun z hz => by
    have hz2 := Y4.out.trans (hz.mono Y4.out.size)
    have := hvf z (Vw.of_row (D2'.out.below hz2).fk.row)
    rw [← filC_drop, ← HII.out] at this
    have e1 : (A ++ (n, xs) :: B).drop (A.length + 1) = B := by rw [← List.drop_drop, List.drop_left' rfl]; rfl
    have e2 : (A ++ (n, xs) :: B).length - (A.length + 1) = B.length := by simp; omega
    rw [e1, e2] at this
    exact this)
  clear hvt hvf hg7 hg7' hle7 hb3 hbut4 c1
  go_wp2_with fail
  refine wp_region_noPanic ?_
  refine wp_region_U (q := 19) (S := fun z : World => Below w4.heap.size w4 z) (by kernel_rfl) ?_
  have Z0 := hide ((Below.refl w4.heap.size w4).drew)
  have hHeld := Z0.out
  have HC14 : Hid (∀ z : World, Below w4.heap.size w4 z → z.cell? ⟨r, 1, none⟩ = some (.slice (some ⟨g, 0, none⟩) L cap)) := hide (fun z hz => HC1.out z (Y4.out.trans (hz.mono Y4.out.size)))
  obtain ⟨f1a, f1b⟩ := wrapN ((I : Int) + 1) (by omega) (by have := HIB.out; omega)
  refine takeU 19 0 97 (.pointer (some ⟨r, 0, none⟩)) hHeld rfl rfl (by kernel_rfl) (by kernel_rfl) (by kernel_rfl) (by kernel_rfl) (by kernel_rfl) (by kernel_rfl) (fun _ _ _ h => h) (Or.inl ⟨by rfl, fun w _ => by go_simp⟩) ?_
  simp only [Act.put, List.setIfInBounds_toArray, List.set_cons_zero, List.set_cons_succ]
  refine takeU 19 2 99 (.pointer (some ⟨r, 0, none⟩)) hHeld rfl rfl (by kernel_rfl) (by kernel_rfl) (by kernel_rfl) (by kernel_rfl) (by kernel_rfl) (by kernel_rfl) (fun _ _ _ h => h) (Or.inl ⟨by rfl, fun w _ => by go_simp⟩) ?_
  simp only [Act.put, List.setIfInBounds_toArray, List.set_cons_zero, List.set_cons_succ]
  refine takeU 19 3 100 (.pointer (some ⟨r, 0, none⟩)) hHeld rfl rfl (by kernel_rfl) (by kernel_rfl) (by kernel_rfl) (by kernel_rfl) (by kernel_rfl) (by kernel_rfl) (fun _ _ _ h => h) (Or.inl ⟨by rfl, fun w _ => by go_simp⟩) ?_
  simp only [Act.put, List.setIfInBounds_toArray, List.set_cons_zero, List.set_cons_succ]
  refine takeU 19 4 101 (.pointer (some ⟨r, 1, none⟩)) hHeld rfl rfl (by kernel_rfl) (by kernel_rfl) (by kernel_rfl) (by kernel_rfl) (by kernel_rfl) (by kernel_rfl) (fun _ _ _ h => h) (Or.inl ⟨by rfl, fun w _ => by go_simp⟩) ?_
  simp only [Act.put, List.setIfInBounds_toArray, List.set_cons_zero, List.set_cons_succ]
  refine takeU 19 5 102 (.slice (some ⟨g, 0, none⟩) L cap) hHeld rfl rfl (by kernel_rfl) (by kernel_rfl) (by kernel_rfl) (by kernel_rfl) (by kernel_rfl) (by kernel_rfl) (fun _ _ _ h => h) (Or.inl ⟨by rfl, fun w hw => by have hw' : w.cell? ⟨r, 1, none⟩ = some (.slice (some ⟨g, 0, none⟩) L cap) := (fun hw => HC14.out _ hw) hw; go_simp⟩) ?_
  simp only [Act.put, List.setIfInBounds_toArray, List.set_cons_zero, List.set_cons_succ]
  refine takeU 19 6 103 (.int .i64 (I : Int)) hHeld rfl rfl (by kernel_rfl) (by kernel_rfl) (by kernel_rfl) (by kernel_rfl) (by kernel_rfl) (by kernel_rfl) (fun _ _ _ h => h) (Or.inl ⟨by rfl, fun w _ => by go_simp⟩) ?_
  simp only [Act.put, List.setIfInBounds_toArray, List.set_cons_zero, List.set_cons_succ]
  refine takeU 19 7 104 (vA) hHeld rfl rfl (by kernel_rfl) (by kernel_rfl) (by kernel_rfl) (by kernel_rfl) (by kernel_rfl) (by kernel_rfl) (fun _ _ _ h => h) (Or.inl ⟨by rfl, fun w h => run_op rfl (HTO.out w)⟩) ?_
  simp only [Act.put, List.setIfInBounds_toArray, List.set_cons_zero, List.set_cons_succ]
  refine takeU 19 9 106 (.pointer (some ⟨r, 0, none⟩)) hHeld rfl rfl (by kernel_rfl) (by kernel_rfl) (by kernel_rfl) (by kernel_rfl) (by kernel_rfl) (by kernel_rfl) (fun _ _ _ h => h) (Or.inl ⟨by rfl, fun w _ => by go_simp⟩) ?_
  simp only [Act.put, List.setIfInBounds_toArray, List.set_cons_zero, List.set_cons_succ]
  refine takeU 19 10 107 (.pointer (some ⟨r, 0, none⟩)) hHeld rfl rfl (by kernel_rfl) (by kernel_rfl) (by kernel_rfl) (by kernel_rfl) (by kernel_rfl) (by kernel_rfl) (fun _ _ _ h => h) (Or.inl ⟨by rfl, fun w _ => by go_simp⟩) ?_
  simp only [Act.put, List.setIfInBounds_toArray, List.set_cons_zero, List.set_cons_succ]
  refine takeU 19 11 108 (.pointer (some ⟨r, 1, none⟩)) hHeld rfl rfl (by kernel_rfl) (by kernel_rfl) (by kernel_rfl) (by kernel_rfl) (by kernel_rfl) (by kernel_rfl) (fun _ _ _ h => h) (Or.inl ⟨by rfl, fun w _ => by go_simp⟩) ?_
  simp only [Act.put, List.setIfInBounds_toArray, List.set_cons_zero, List.set_cons_succ]
  refine takeU 19 12 109 (.slice (some ⟨g, 0, none⟩) L cap) hHeld rfl rfl (by kernel_rfl) (by kernel_rfl) (by kernel_rfl) (by kernel_rfl) (by kernel_rfl) (by kernel_rfl) (fun _ _ _ h => h) (Or.inl ⟨by rfl, fun w hw => by have hw' : w.cell? ⟨r, 1, none⟩ = some (.slice (some ⟨g, 0, none⟩) L cap) := (fun hw => HC14.out _ hw) hw; go_simp⟩) ?_
  simp only [Act.put, List.setIfInBounds_toArray, List.set_cons_zero, List.set_cons_succ]
  refine takeU 19 13 110 (.int .i64 (I : Int)) hHeld rfl rfl (by kernel_rfl) (by kernel_rfl) (by kernel_rfl) (by kernel_rfl) (by kernel_rfl) (by kernel_rfl) (fun _ _ _ h => h) (Or.inl ⟨by rfl, fun w _ => by go_simp⟩) ?_
  simp only [Act.put, List.setIfInBounds_toArray, List.set_cons_zero, List.set_cons_succ]
  refine takeU 19 14 111 (.int .i64 ((I : Int) + 1)) hHeld rfl rfl (by kernel_rfl) (by kernel_rfl) (by kernel_rfl) (by kernel_rfl) (by kernel_rfl) (by kernel_rfl) (fun _ _ _ h => h) (Or.inl ⟨by rfl, fun w _ => by go_simp⟩) ?_
  simp only [Act.put, List.setIfInBounds_toArray, List.set_cons_zero, List.set_cons_succ]
  refine takeU 19 15 112 (vB) hHeld rfl rfl (by kernel_rfl) (by kernel_rfl) (by kernel_rfl) (by kernel_rfl) (by kernel_rfl) (by kernel_rfl) (fun _ _ _ h => h) (Or.inl ⟨by rfl, fun w h => run_op rfl (HFR.out w)⟩) ?_
  simp only [Act.put, List.setIfInBounds_toArray, List.set_cons_zero, List.set_cons_succ]
  have ONE1 : Hid (∀ x ∈ filC A, x.oneCell' = true) := hide (filC_one A)
  have HLA : Hid (A.length ≤ 1099511000000 ∧ B.length ≤ 1099511000000 ∧ A.length + B.length ≤ 1099511000000) := hide (by have := HL.out; rw [HAB.out, List.length_append, List.length_cons] at this; omega)
  refine wpAnyU_ready (rs := [1]) (by kernel_rfl) (by simp) (AllReadyU.cons rfl (fun K hK => ?_) AllReadyU.nil)
  rw [if_pos (by rfl)]
  refine wp_0F Z0.out.size ?_
  intro w5 g0 hv0 hb5
  have Z5 := hide (Z0.out.trans (hb5.mono Z0.out.size))
  have V0 := hide hv0
  refine hK.out _ _ (fun _ => Z5.out) ?_
  have hHeld := Z5.out
  clear hK K
  clear hv0 hb5
  simp only [Act.put]
  refine wpAnyU_ready (rs := [8]) (by kernel_rfl) (by simp) (AllReadyU.cons rfl (fun K hK => ?_) AllReadyU.nil)
  rw [if_pos (by rfl)]
  refine wp_app0 rFi rfl rfl V0.out (HVT.out _ Z5.out) ONE1.out (by have := HLA.out.1; omega) Z5.out.size ?_
  intro v29 w7 hv29 hb7
  have Z7 := hide (Z5.out.trans (hb7.mono Z5.out.size))
  have V29 := hide hv29
  refine hK.out _ _ (fun _ => Z7.out) ?_
  have hHeld := Z7.out
  clear hK K
  clear hv29 hb7
  simp only [Act.put]
  refine wpAnyU_ready (rs := [16]) (by kernel_rfl) (by simp) (AllReadyU.cons rfl (fun K hK => ?_) AllReadyU.nil)
  rw [if_pos (by rfl)]
  refine wp_appV rFi rfl rfl V29.out (HVF.out _ Z7.out) (filC_one _) (by have := HLA.out; omega) Z7.out.size ?_
  intro v43 w8 hv43 hgr8 hat8
  obtain ⟨L4, hL4⟩ : ∃ L4, (A ++ B).length = L4 := ⟨_, rfl⟩
  have HL4 := hide hL4
  clear hL4
  have V8 : Hid (w8.ownsRow w4.heap.size 135 2 v43 L4 (filC (A ++ B))) := hide (by rw [filC_app, ← HL4.out, List.length_append]; exact hv43)
  have Z8 := hide (Z7.out.trans (grown_below hgr8 (fun k hk => row_ge V29.out hk) Z7.out.size))
  have Y8 := hide (Y4.out.trans (Z8.out.mono Y4.out.size))
  have D8 := hide (D2'.out.below Y8.out)
  obtain ⟨a4, c4, hve4⟩ := row_slice V8.out
  subst hve4
  have k1 : w8.cell? ⟨r, 1, none⟩ = some (.slice (some ⟨g, 0, none⟩) L cap) := HC14.out _ Z8.out
  have k2 : w8.frozen? ⟨r, 1, none⟩ = false := D8.out.fk.blk.free 1
  refine hK.out _ _ (fun _ => Z8.out) ?_
  have hHeld := Z8.out
  clear hK K
  clear hv43 hgr8 hat8
  simp only [Act.put]
  refine wpAnyU_ready (rs := [17]) (by kernel_rfl) (by simp) (AllReadyU.cons rfl (fun K hK => ?_) AllReadyU.nil)
  rw [if_pos (by rfl)]
  go_simp
  refine hK.out _ _ (fun _ => Z8.out) ?_
  have hHeld := Z8.out
  clear hK K
  refine takeU 19 18 115 (.pointer (some ⟨r, 1, none⟩)) hHeld rfl rfl (by kernel_rfl) (by kernel_rfl) (by kernel_rfl) (by kernel_rfl) (by kernel_rfl) (by kernel_rfl) (fun _ _ _ h => h) (Or.inl ⟨by rfl, fun w _ => by go_simp⟩) ?_
  simp only [Act.put, List.setIfInBounds_toArray, List.set_cons_zero, List.set_cons_succ]
  refine wpAnyU_ready (rs := [19]) (by kernel_rfl) (by simp) (AllReadyU.cons rfl (fun K hK => ?_) AllReadyU.nil)
  rw [if_pos (by rfl)]
  go_simp
  refine hK.out _ _ (fun h => absurd h (by decide)) ?_
  clear hK K
  refine wpAnyU_done (by kernel_rfl) ?_ _
  refine NoPanic.normal ?_
  have B6 := But.setCell w8 r 1 (.slice a4 L4 c4)
  have D6 : Hid (DsR w (w8.setCell ⟨r, 1, none⟩ (.slice a4 L4 c4)) r s R (.slice a4 L4 c4) (A ++ B) (rRn n t) (Value.slice none 0 0) g3) := hide (by
    have hne : ∀ {k : Nat} {t : TypeId} {cs : List Value}, Blk w8 k t cs → t ≠ 107 → k ≠ r := fun hc ht => hc.apart D8.out.fk.blk ht
    refine ⟨⟨D8.out.fk.blk.set 1 _, ?_⟩, ?_, ?_, D8.out.new, D8.out.chs.thenBut B6 (.inl (.inl rfl)), fun k hk => ?_, D8.out.off⟩
    · rw [HL4.out]
      refine row_same (Vw.row0 V8.out) (fun k hk => B6.block k ?_)
      obtain ⟨cs, hc⟩ := row_lies V8.out hk
      exact hne hc (by decide)
    · refine row_same D8.out.row (fun k hk => B6.block k ?_)
      obtain ⟨cs, hc⟩ := row_lies D8.out.row hk
      exact hne hc (by decide)
    · exact D8.out.gb.but B6 (hne D8.out.gb (by decide))
    · right
      have h1 := row_ge V8.out hk
      have h2 := D2'.out.chs.size
      have h3 := Y4.out.size
      omega)
  have G76 : Hid (Blk (w8.setCell ⟨r, 1, none⟩ (.slice a4 L4 c4)) g7 135 [.string n, .string (str xs)]) := hide ((G7.out.on Z8.out).but B6 ((G7.out.on Z8.out).apart D8.out.fk.blk (by decide)))
  have N7 : Hid (∀ k, (Value.slice a4 L4 c4).ownBlock = some k → k ≠ g7) := hide (fun k hk e => by
    have h1 := row_ge V8.out hk
    have h2 := G7.out.lt
    omega)
  revert D6 G76
  generalize w8.setCell ⟨r, 1, none⟩ (.slice a4 L4 c4) = w6
  intro D6 G76
  clear k1 k2 hix hHeld f1a f1b B6 V8 Z8 Y8 D8 V29 Z7 V0 Z5 Z0 HC14 HVT HVF HTO HFR
  have c0 : w6.cell? ⟨g3, 0, none⟩ = some (.int .i64 5) := D6.out.r0
  have c44 : w6.cell? ⟨g3, 4, none⟩ = some (.string t) := D6.out.r4
  go_wp2_with (go_at_call 70; refine (HFD2.out _ _ D6.out.fk).mono ?_; rintro e w8 ⟨rfl, hb8⟩; have D8 := hide (D6.out.below hb8); have G78 := hide (G76.out.on hb8); clear hb8)
  clear c0 c44 HFD2
  have HC4 : Hid (∀ z : World, Below w8.heap.size w8 z → z.cell? ⟨g3, 4, none⟩ = some (.string t)) := hide (fun z hz => (D8.out.below hz).r4)
  have HC7 : Hid (∀ z : World, Below w8.heap.size w8 z → z.cell? ⟨g7, 1, none⟩ = some (.string (str xs))) := hide (fun z hz => by rw [(G78.out.on hz).cell]; rfl)
  have HC8 : Hid (∀ z : World, Below w8.heap.size w8 z → z.cell? ⟨r, 1, none⟩ = some (.slice a4 L4 c4)) := hide (fun z hz => (D8.out.below hz).c1)
  obtain ⟨vA2, hto, hvt⟩ := (Vw.of_row D8.out.fk.row).to rFi (k := J) (by rw [HAB2.out, List.length_append, HJ.out]; omega)
  obtain ⟨vB2, hfr, hvf⟩ := (Vw.of_row D8.out.fk.row).from rFi (k := J) (by rw [HAB2.out, List.length_append, HJ.out]; omega)
  have HTO2 := hide hto
  have HFR2 := hide hfr
  have HVT2 : Hid (∀ z : World, Below w8.heap.size w8 z → Vw z 135 2 vA2 A2.length (filC A2)) := hide (fun z hz => by
    have := hvt z (Vw.of_row (D8.out.below hz).fk.row)
    rw [← filC_take, HAB2.out, ← HJ.out, List.take_left' rfl] at this
    exact this)
  have HVF2 : Hid (∀ z : World, Below w8.heap.size w8 z → Vw z 135 2 vB2 B3.length (filC B3)) := hide (fun z hz => by
    have := hvf z (Vw.of_row (D8.out.below hz).fk.row)
    rw [← filC_drop, HAB2.out, ← HJ.out, List.drop_left' rfl, List.length_append, Nat.add_sub_cancel_left] at this
    exact this)
  clear hto hfr hvt hvf
  refine join4 (fun x y z u W => Hid (W.ownsRow w8.heap.size 135 2 u (A2 ++ [(t, xs)]).length (filC (A2 ++ [(t, xs)]))) ∧ Hid (Below w8.heap.size w8 W)) ?act2 ?tail2 (fun hjoin => ?_)
  rotate_left
  rotate_left
  · refine wp_region_noPanic ?_
    refine wp_region_U (q := 15) (S := fun z : World => Below w8.heap.size w8 z) (by kernel_rfl) ?_
    have Z0 := hide ((Below.refl w8.heap.size w8).drew)
    have hHeld := Z0.out
    refine takeU 15 1 137 (.pointer (some ⟨r, 0, none⟩)) hHeld rfl rfl (by kernel_rfl) (by kernel_rfl) (by kernel_rfl) (by kernel_rfl) (by kernel_rfl) (by kernel_rfl) (fun _ _ _ h => h) (Or.inl ⟨by rfl, fun w _ => by go_simp⟩) ?_
    simp only [Act.put, List.setIfInBounds_toArray, List.set_cons_zero, List.set_cons_succ]
    refine takeU 15 2 138 (.pointer (some ⟨r, 0, none⟩)) hHeld rfl rfl (by kernel_rfl) (by kernel_rfl) (by kernel_rfl) (by kernel_rfl) (by kernel_rfl) (by kernel_rfl) (fun _ _ _ h => h) (Or.inl ⟨by rfl, fun w _ => by go_simp⟩) ?_
    simp only [Act.put, List.setIfInBounds_toArray, List.set_cons_zero, List.set_cons_succ]
    refine takeU 15 3 139 (.pointer (some ⟨r, 1, none⟩)) hHeld rfl rfl (by kernel_rfl) (by kernel_rfl) (by kernel_rfl) (by kernel_rfl) (by kernel_rfl) (by kernel_rfl) (fun _ _ _ h => h) (Or.inl ⟨by rfl, fun w _ => by go_simp⟩) ?_
    simp only [Act.put, List.setIfInBounds_toArray, List.set_cons_zero, List.set_cons_succ]
    refine takeU 15 4 140 (.slice a4 L4 c4) hHeld rfl rfl (by kernel_rfl) (by kernel_rfl) (by kernel_rfl) (by kernel_rfl) (by kernel_rfl) (by kernel_rfl) (fun _ _ _ h => h) (Or.inl ⟨by rfl, fun w hw => by have hw' : w.cell? ⟨r, 1, none⟩ = some (.slice a4 L4 c4) := (fun hw => HC8.out _ hw) hw; go_simp⟩) ?_
    simp only [Act.put, List.setIfInBounds_toArray, List.set_cons_zero, List.set_cons_succ]
    refine takeU 15 5 141 (.int .i64 (J : Int)) hHeld rfl rfl (by kernel_rfl) (by kernel_rfl) (by kernel_rfl) (by kernel_rfl) (by kernel_rfl) (by kernel_rfl) (fun _ _ _ h => h) (Or.inl ⟨by rfl, fun w _ => by go_simp⟩) ?_
    simp only [Act.put, List.setIfInBounds_toArray, List.set_cons_zero, List.set_cons_succ]
    refine takeU 15 6 142 (vA2) hHeld rfl rfl (by kernel_rfl) (by kernel_rfl) (by kernel_rfl) (by kernel_rfl) (by kernel_rfl) (by kernel_rfl) (fun _ _ _ h => h) (Or.inl ⟨by rfl, fun w h => run_op rfl (HTO2.out w)⟩) ?_
    simp only [Act.put, List.setIfInBounds_toArray, List.set_cons_zero, List.set_cons_succ]
    refine takeU 15 8 144 (.pointer (some ⟨g3, 4, none⟩)) hHeld rfl rfl (by kernel_rfl) (by kernel_rfl) (by kernel_rfl) (by kernel_rfl) (by kernel_rfl) (by kernel_rfl) (fun _ _ _ h => h) (Or.inl ⟨by rfl, fun w _ => by go_simp⟩) ?_
    simp only [Act.put, List.setIfInBounds_toArray, List.set_cons_zero, List.set_cons_succ]
    refine takeU 15 9 145 (.string t) hHeld rfl rfl (by kernel_rfl) (by kernel_rfl) (by kernel_rfl) (by kernel_rfl) (by kernel_rfl) (by kernel_rfl) (fun _ _ _ h => h) (Or.inl ⟨by rfl, fun w hw => by have hw' : w.cell? ⟨g3, 4, none⟩ = some (.string t) := (fun hw => HC4.out _ hw) hw; go_simp⟩) ?_
    simp only [Act.put, List.setIfInBounds_toArray, List.set_cons_zero, List.set_cons_succ]
    refine takeU 15 10 146 (.pointer (some ⟨g7, 1, none⟩)) hHeld rfl rfl (by kernel_rfl) (by kernel_rfl) (by kernel_rfl) (by kernel_rfl) (by kernel_rfl) (by kernel_rfl) (fun _ _ _ h => h) (Or.inl ⟨by rfl, fun w _ => by go_simp⟩) ?_
    simp only [Act.put, List.setIfInBounds_toArray, List.set_cons_zero, List.set_cons_succ]
    refine takeU 15 11 147 (.string (str xs)) hHeld rfl rfl (by kernel_rfl) (by kernel_rfl) (by kernel_rfl) (by kernel_rfl) (by kernel_rfl) (by kernel_rfl) (fun _ _ _ h => h) (Or.inl ⟨by rfl, fun w hw => by have hw' : w.cell? ⟨g7, 1, none⟩ = some (.string (str xs)) := (fun hw => HC7.out _ hw) hw; go_simp⟩) ?_
    simp only [Act.put, List.setIfInBounds_toArray, List.set_cons_zero, List.set_cons_succ]
    refine takeU 15 12 148 (.agg #[.string t, .string (str xs)]) hHeld rfl rfl (by kernel_rfl) (by kernel_rfl) (by kernel_rfl) (by kernel_rfl) (by kernel_rfl) (by kernel_rfl) (fun _ _ _ h => h) (Or.inl ⟨by rfl, fun w h => run_buildF2 rfl rfl⟩) ?_
    simp only [Act.put, List.setIfInBounds_toArray, List.set_cons_zero, List.set_cons_succ]
    have ONE1 : Hid (∀ x ∈ filC A2, x.oneCell' = true) := hide (filC_one A2)
    have ONE2 : Hid (∀ x ∈ filC [(t, xs)], x.oneCell' = true) := hide (filC_one _)
    have HLA : Hid (A2.length ≤ 1099511000000) := hide (by have := HLA2.out; rw [HAB2.out, List.length_append] at this; omega)
    have HVA : Hid (∀ z : World, Below w8.heap.size w8 z → Vw z 135 2 vA2 A2.length (filC A2)) := hide (fun z hz => HVT2.out z hz)
    refine wpAnyU_ready (rs := [0, 13]) (by kernel_rfl) (by simp) (AllReadyU.cons rfl (fun K hK => ?_) (AllReadyU.cons rfl (fun K hK => ?_) AllReadyU.nil))
    · rw [if_pos (by rfl)]
      refine wp_0F Z0.out.size ?_
      intro w3 g0 hv0 hb0
      have Z3 := hide (Z0.out.trans (hb0.mono Z0.out.size))
      have V0 := hide hv0
      have B0 := hide hb0
      refine hK.out _ _ (fun _ => Z3.out) ?_
      have hHeld := Z3.out
      clear hK K
      clear hv0 hb0
      simp only [Act.put]
      refine wpAnyU_ready (rs := [7, 13]) (by kernel_rfl) (by simp) (AllReadyU.cons rfl (fun K hK => ?_) (AllReadyU.cons rfl (fun K hK => ?_) AllReadyU.nil))
      · rw [if_pos (by rfl)]
        refine wp_app0 rFi rfl rfl V0.out (HVA.out _ Z3.out) ONE1.out (by have := HLA.out; omega) Z3.out.size ?_
        intro v29 w4 hv29 hb7
        have Z4 := hide (Z3.out.trans (hb7.mono Z3.out.size))
        have V29 := hide hv29
        have B7 := hide hb7
        refine hK.out _ _ (fun _ => Z4.out) ?_
        have hHeld := Z4.out
        clear hK K
        clear hv29 hb7
        simp only [Act.put]
        refine wpAnyU_ready (rs := [13]) (by kernel_rfl) (by simp) (AllReadyU.cons rfl (fun K hK => ?_) AllReadyU.nil)
        rw [if_pos (by rfl)]
        refine wp_oneF (n := t) (xs := xs) rfl ?_
        intro w5 v33 hu33 hb11
        have Z5 := hide (Z4.out.trans (hb11.mono Z4.out.size))
        have U33 := hide hu33
        have B11 := hide hb11
        refine hK.out _ _ (fun _ => Z5.out) ?_
        have hHeld := Z5.out
        clear hK K
        clear hu33 hb11
        simp only [Act.put]
        have V29' := hide (row_on V29.out B11.out)
        refine wpAnyU_ready (rs := [14]) (by kernel_rfl) (by simp) (AllReadyU.cons rfl (fun K hK => ?_) AllReadyU.nil)
        rw [if_pos (by rfl)]
        refine wp_appV rFi rfl rfl V29'.out U33.out ONE2.out (by have := HLA.out; omega) Z5.out.size ?_
        intro v34 w6 hv34 hgr12 hat12
        have Z6 := hide (Z5.out.trans (grown_below hgr12 (fun k hk => row_ge V29'.out hk) Z5.out.size))
        have V34 : Hid (w6.ownsRow w8.heap.size 135 2 v34 (A2 ++ [(t, xs)]).length (filC (A2 ++ [(t, xs)]))) := hide (by rw [filC_app, List.length_append]; exact hv34)
        refine hK.out _ _ (fun _ => Z6.out) ?_
        have hHeld := Z6.out
        clear hK K
        clear hv34 hgr12 hat12
        simp only [Act.put]
        refine wpAnyU_ready (rs := [15]) (by kernel_rfl) (by simp) (AllReadyU.cons rfl (fun K hK => ?_) AllReadyU.nil)
        rw [if_pos (by rfl)]
        go_simp
        refine hK.out _ _ (fun h => absurd h (by decide)) ?_
        clear hK K
        refine wpAnyU_done (by kernel_rfl) ?_ _
        refine NoPanic.normal ?_
        exact hjoin g0 v29 v33 v34 w6 ⟨V34, Z6⟩
      · rw [if_pos (by rfl)]
        refine wp_oneF (n := t) (xs := xs) rfl ?_
        intro w4 v33 hu33 hb11
        have Z4 := hide (Z3.out.trans (hb11.mono Z3.out.size))
        have U33 := hide hu33
        have B11 := hide hb11
        refine hK.out _ _ (fun _ => Z4.out) ?_
        have hHeld := Z4.out
        clear hK K
        clear hu33 hb11
        simp only [Act.put]
        have V0' := hide (And.intro V0.out.1 (row_on V0.out.2 B11.out))
        refine wpAnyU_ready (rs := [7]) (by kernel_rfl) (by simp) (AllReadyU.cons rfl (fun K hK => ?_) AllReadyU.nil)
        rw [if_pos (by rfl)]
        refine wp_app0 rFi rfl rfl V0'.out (HVA.out _ Z4.out) ONE1.out (by have := HLA.out; omega) Z4.out.size ?_
        intro v29 w5 hv29 hb7
        have Z5 := hide (Z4.out.trans (hb7.mono Z4.out.size))
        have V29 := hide hv29
        have B7 := hide hb7
        refine hK.out _ _ (fun _ => Z5.out) ?_
        have hHeld := Z5.out
        clear hK K
        clear hv29 hb7
        simp only [Act.put]
        have U33' := hide (U33.out.on B7.out)
        refine wpAnyU_ready (rs := [14]) (by kernel_rfl) (by simp) (AllReadyU.cons rfl (fun K hK => ?_) AllReadyU.nil)
        rw [if_pos (by rfl)]
        refine wp_appV rFi rfl rfl V29.out U33'.out ONE2.out (by have := HLA.out; omega) Z5.out.size ?_
        intro v34 w6 hv34 hgr12 hat12
        have Z6 := hide (Z5.out.trans (grown_below hgr12 (fun k hk => row_ge V29.out hk) Z5.out.size))
        have V34 : Hid (w6.ownsRow w8.heap.size 135 2 v34 (A2 ++ [(t, xs)]).length (filC (A2 ++ [(t, xs)]))) := hide (by rw [filC_app, List.length_append]; exact hv34)
        refine hK.out _ _ (fun _ => Z6.out) ?_
        have hHeld := Z6.out
        clear hK K
        clear hv34 hgr12 hat12
        simp only [Act.put]
        refine wpAnyU_ready (rs := [15]) (by kernel_rfl) (by simp) (AllReadyU.cons rfl (fun K hK => ?_) AllReadyU.nil)
        rw [if_pos (by rfl)]
        go_simp
        refine hK.out _ _ (fun h => absurd h (by decide)) ?_
        clear hK K
        refine wpAnyU_done (by kernel_rfl) ?_ _
        refine NoPanic.normal ?_
        exact hjoin g0 v29 v33 v34 w6 ⟨V34, Z6⟩
    · rw [if_pos (by rfl)]
      refine wp_oneF (n := t) (xs := xs) rfl ?_
      intro w3 v33 hu33 hb11
      have Z3 := hide (Z0.out.trans (hb11.mono Z0.out.size))
      have U33 := hide hu33
      have B11 := hide hb11
      refine hK.out _ _ (fun _ => Z3.out) ?_
      have hHeld := Z3.out
      clear hK K
      clear hu33 hb11
      simp only [Act.put]
      refine wpAnyU_ready (rs := [0]) (by kernel_rfl) (by simp) (AllReadyU.cons rfl (fun K hK => ?_) AllReadyU.nil)
      rw [if_pos (by rfl)]
      refine wp_0F Z3.out.size ?_
      intro w4 g0 hv0 hb0
      have Z4 := hide (Z3.out.trans (hb0.mono Z3.out.size))
      have V0 := hide hv0
      have B0 := hide hb0
      refine hK.out _ _ (fun _ => Z4.out) ?_
      have hHeld := Z4.out
      clear hK K
      clear hv0 hb0
      simp only [Act.put]
      have U33' := hide (U33.out.on B0.out)
      refine wpAnyU_ready (rs := [7]) (by kernel_rfl) (by simp) (AllReadyU.cons rfl (fun K hK => ?_) AllReadyU.nil)
      rw [if_pos (by rfl)]
      refine wp_app0 rFi rfl rfl V0.out (HVA.out _ Z4.out) ONE1.out (by have := HLA.out; omega) Z4.out.size ?_
      intro v29 w5 hv29 hb7
      have Z5 := hide (Z4.out.trans (hb7.mono Z4.out.size))
      have V29 := hide hv29
      have B7 := hide hb7
      refine hK.out _ _ (fun _ => Z5.out) ?_
      have hHeld := Z5.out
      clear hK K
      clear hv29 hb7
      simp only [Act.put]
      have U33'' := hide (U33'.out.on B7.out)
      refine wpAnyU_ready (rs := [14]) (by kernel_rfl) (by simp) (AllReadyU.cons rfl (fun K hK => ?_) AllReadyU.nil)
      rw [if_pos (by rfl)]
      refine wp_appV rFi rfl rfl V29.out U33''.out ONE2.out (by have := HLA.out; omega) Z5.out.size ?_
      intro v34 w6 hv34 hgr12 hat12
      have Z6 := hide (Z5.out.trans (grown_below hgr12 (fun k hk => row_ge V29.out hk) Z5.out.size))
      have V34 : Hid (w6.ownsRow w8.heap.size 135 2 v34 (A2 ++ [(t, xs)]).length (filC (A2 ++ [(t, xs)]))) := hide (by rw [filC_app, List.length_append]; exact hv34)
      refine hK.out _ _ (fun _ => Z6.out) ?_
      have hHeld := Z6.out
      clear hK K
      clear hv34 hgr12 hat12
      simp only [Act.put]
      refine wpAnyU_ready (rs := [15]) (by kernel_rfl) (by simp) (AllReadyU.cons rfl (fun K hK => ?_) AllReadyU.nil)
      rw [if_pos (by rfl)]
      go_simp
      refine hK.out _ _ (fun h => absurd h (by decide)) ?_
      clear hK K
      refine wpAnyU_done (by kernel_rfl) ?_ _
      refine NoPanic.normal ?_
      exact hjoin g0 v29 v33 v34 w6 ⟨V34, Z6⟩
  intro x y z u W9 hP
  obtain ⟨V91, Z91⟩ := hP
  have D31 := hide (D8.out.below Z91.out)
  have c1 : W9.cell? ⟨r, 1, none⟩ = some (Value.slice a4 L4 c4) := D31.out.c1
  have hfr := HFR2.out
  obtain ⟨L9, hL9⟩ : ∃ L9, ((A2 ++ [(t, xs)]) ++ B3).length = L9 := ⟨_, rfl⟩
  have HL9 := hide hL9
  clear hL9
  have HLB : Hid ((A2 ++ [(t, xs)]).length + B3.length ≤ 1099511000002) := hide (by have := HLA2.out; rw [HAB2.out, List.length_append] at this; simp; omega)
  go_upto_region 20 with (refine step_appV rFi rfl rfl rfl V91.out (HVF2.out _ Z91.out) (filC_one _) (by have := HLB.out; omega) Z91.out.size ?_; intro v93 w9 hv93 hgr9 hat9; have V9 : Hid (w9.ownsRow w8.heap.size 135 2 v93 L9 (filC ((A2 ++ [(t, xs)]) ++ B3))) := hide (by rw [filC_app, ← HL9.out, List.length_append]; exact hv93); have Z9 := hide (Z91.out.trans (grown_below hgr9 (fun k hk => row_ge V91.out hk) Z91.out.size)); have D9 := hide (D8.out.below Z9.out); clear hv93 hgr9 hat9; obtain ⟨a9, c9, hve4⟩ := row_slice V9.out; subst hve4; have k1 : w9.cell? ⟨r, 1, none⟩ = some (Value.slice a4 L4 c4) := D9.out.c1; have k2 : w9.frozen? ⟨r, 1, none⟩ = false := D9.out.fk.blk.free 1)
  have B10 := But.setCell w9 r 1 (.slice a9 L9 c9)
  have D10 : Hid (DsR w (w9.setCell ⟨r, 1, none⟩ (.slice a9 L9 c9)) r s R (.slice a9 L9 c9) ((A2 ++ [(t, xs)]) ++ B3) (rRn n t) (Value.slice none 0 0) g3) := hide (by
    have hne : ∀ {k : Nat} {t : TypeId} {cs : List Value}, Blk w9 k t cs → t ≠ 107 → k ≠ r := fun hc ht => hc.apart D9.out.fk.blk ht
    refine ⟨⟨D9.out.fk.blk.set 1 _, ?_⟩, ?_, ?_, D9.out.new, D9.out.chs.thenBut B10 (.inl (.inl rfl)), fun k hk => ?_, D9.out.off⟩
    · rw [HL9.out]
      refine row_same (Vw.row0 V9.out) (fun k hk => B10.block k ?_)
      obtain ⟨cs, hc⟩ := row_lies V9.out hk
      exact hne hc (by decide)
    · refine row_same D9.out.row (fun k hk => B10.block k ?_)
      obtain ⟨cs, hc⟩ := row_lies D9.out.row hk
      exact hne hc (by decide)
    · exact D9.out.gb.but B10 (hne D9.out.gb (by decide))
    · right
      have h1 := row_ge V9.out hk
      have h2 := D8.out.chs.size
      omega)
  revert D10
  generalize w9.setCell ⟨r, 1, none⟩ (.slice a9 L9 c9) = w10
  intro D10
  clear k1 k2 c1 hfr B10 D9 Z9 V9 D31
  go_wp2_with fail
  have HRE5 : Hid (∃ q1 q2, R.qv = .slice q1 R.qs.length q2) := hide (by obtain ⟨q1, q2, hq⟩ := row_slice HH.out.row; exact ⟨q1, q2, hq⟩)
  obtain ⟨L5, hL5⟩ : ∃ L5, (R.qs ++ [(rRn n t, (Value.slice none 0 0))]).length = L5 := ⟨_, rfl⟩
  have HL5 := hide hL5
  clear hL5
  refine wp_region_noPanic ?_
  refine wp_region_U (q := 10) (S := fun z : World => z.cell? ⟨r, 2, none⟩ = some R.qv ∧ z.rangeAt g3 0 (rwC 5 n (.slice none 0 0) 0 t)) (by kernel_rfl) ?_
  have Z0 := hide ((Below.refl w10.heap.size w10).drew)
  have E0 := hide (D10.out.below Z0.out)
  have HIR : Hid ((Tryz.prog.info? 116).map (·.size) = some (rwC 5 n (.slice none 0 0) 0 t).length) := hide (by rw [wRw.size]; rfl)
  have gb0 : Blk w10.drew g3 116 (rwC 5 n (.slice none 0 0) 0 t) := E0.out.gb
  have hHeld : w10.drew.cell? ⟨r, 2, none⟩ = some R.qv ∧ w10.drew.rangeAt g3 0 (rwC 5 n (.slice none 0 0) 0 t) := ⟨E0.out.c2, gb0.range 0 _ (by simp)⟩
  clear gb0
  refine takeU 10 0 168 (.pointer (some ⟨r, 0, none⟩)) hHeld rfl rfl (by kernel_rfl) (by kernel_rfl) (by kernel_rfl) (by kernel_rfl) (by kernel_rfl) (by kernel_rfl) (fun _ _ _ h => h) (Or.inl ⟨by rfl, fun w _ => by go_simp⟩) ?_
  simp only [Act.put, List.setIfInBounds_toArray, List.set_cons_zero, List.set_cons_succ]
  refine takeU 10 1 169 (.pointer (some ⟨r, 0, none⟩)) hHeld rfl rfl (by kernel_rfl) (by kernel_rfl) (by kernel_rfl) (by kernel_rfl) (by kernel_rfl) (by kernel_rfl) (fun _ _ _ h => h) (Or.inl ⟨by rfl, fun w _ => by go_simp⟩) ?_
  simp only [Act.put, List.setIfInBounds_toArray, List.set_cons_zero, List.set_cons_succ]
  refine takeU 10 2 170 (.pointer (some ⟨r, 0, none⟩)) hHeld rfl rfl (by kernel_rfl) (by kernel_rfl) (by kernel_rfl) (by kernel_rfl) (by kernel_rfl) (by kernel_rfl) (fun _ _ _ h => h) (Or.inl ⟨by rfl, fun w _ => by go_simp⟩) ?_
  simp only [Act.put, List.setIfInBounds_toArray, List.set_cons_zero, List.set_cons_succ]
  refine takeU 10 3 171 (.pointer (some ⟨r, 2, none⟩)) hHeld rfl rfl (by kernel_rfl) (by kernel_rfl) (by kernel_rfl) (by kernel_rfl) (by kernel_rfl) (by kernel_rfl) (fun _ _ _ h => h) (Or.inl ⟨by rfl, fun w _ => by go_simp⟩) ?_
  simp only [Act.put, List.setIfInBounds_toArray, List.set_cons_zero, List.set_cons_succ]
  refine takeU 10 4 172 (R.qv) hHeld rfl rfl (by kernel_rfl) (by kernel_rfl) (by kernel_rfl) (by kernel_rfl) (by kernel_rfl) (by kernel_rfl) (fun _ _ _ h => h) (Or.inl ⟨by rfl, fun w hw => by have hw' : w.cell? ⟨r, 2, none⟩ = some (R.qv) := (fun h => h.1) hw; go_simp⟩) ?_
  simp only [Act.put, List.setIfInBounds_toArray, List.set_cons_zero, List.set_cons_succ]
  refine takeU 10 5 173 (.agg (rwC 5 n (.slice none 0 0) 0 t).toArray) hHeld rfl rfl (by kernel_rfl) (by kernel_rfl) (by kernel_rfl) (by kernel_rfl) (by kernel_rfl) (by kernel_rfl) (fun _ _ _ h => h) (yieldsIf_load_mid (by rfl) _ _ rfl g3 0 rfl _ _ (fun w h => h.2) Tryz.underlying116 rfl HIR.out) ?_
  simp only [Act.put, List.setIfInBounds_toArray, List.set_cons_zero, List.set_cons_succ]
  refine wpAnyU_ready (rs := [6]) (by kernel_rfl) (by simp) (AllReadyU.cons rfl (fun K hK => ?_) AllReadyU.nil)
  rw [if_pos (by rfl)]
  refine wp_oneR (r := rRn n t) (v := (Value.slice none 0 0)) ⟨_, _, _, rfl⟩ rfl ?_
  intro w4 u4 hu4 hb4
  have E4 := hide (E0.out.below hb4)
  have HU4 := hide hu4
  have gb0 : Blk w4 g3 116 (rwC 5 n (.slice none 0 0) 0 t) := E4.out.gb
  have hH4 : w4.cell? ⟨r, 2, none⟩ = some R.qv ∧ w4.rangeAt g3 0 (rwC 5 n (.slice none 0 0) 0 t) := ⟨E4.out.c2, gb0.range 0 _ (by simp)⟩
  clear gb0
  refine hK.out _ _ (fun _ => hH4) ?_
  have hHeld := hH4
  clear hK K
  clear hu4 hb4 hH4
  simp only [Act.put]
  refine wpAnyU_ready (rs := [7]) (by kernel_rfl) (by simp) (AllReadyU.cons rfl (fun K hK => ?_) AllReadyU.nil)
  rw [if_pos (by rfl)]
  refine wp_appV rRw rfl rfl E4.out.row HU4.out (rwsC_one _ (fun x hx => by simp at hx; subst hx; exact ⟨_, _, _, rfl⟩)) (by have := HRL.out; omega) (Nat.zero_le _) ?_
  intro qv5 w5 hrow5 hgr5 hat5
  have hne5 : ∀ k, R.qv.ownBlock = some k → k ≠ r := fun k hk e => by
    obtain ⟨cs, hc⟩ := row_lies E4.out.row hk
    exact hc.apart E4.out.fk.blk (by decide) e
  have hnf5 : ∀ k, (Value.slice a9 L9 c9).ownBlock = some k → R.qv.ownBlock ≠ some k := fun k hk e => by
    obtain ⟨cs, hc⟩ := row_lies E4.out.row e
    obtain ⟨cs', hc'⟩ := row_lies E4.out.fk.row hk
    exact hc.apart hc' (by decide) rfl
  have DK5 : Hid (Blk w5 r 107 (rkC s (Value.slice a9 L9 c9) R.qv)) := hide (E4.out.fk.blk.same (hgr5.block r E4.out.fk.blk.lt (fun e => hne5 r e.symm rfl)))
  have G5 : Hid (Blk w5 g3 116 (rwC 5 n (.slice none 0 0) 0 t)) := hide (Blk.same E4.out.gb (hgr5.block g3 E4.out.gb.lt (fun e => E4.out.off e.symm)))
  have F5 : Hid (w5.ownsRow 0 135 2 (Value.slice a9 L9 c9) ((A2 ++ [(t, xs)]) ++ B3).length (filC (((A2 ++ [(t, xs)]) ++ B3)))) := hide (row_same E4.out.fk.row (fun k hk => by
    obtain ⟨cs, hc⟩ := row_lies E4.out.fk.row hk
    exact hgr5.block k hc.lt (fun e => hnf5 k hk e.symm)))
  have CH5 : Hid (Chs (R.own r) w w5) := hide (E4.out.chs.thenGrown hgr5 (fun k hk => .inl (.inr (.inr hk))))
  have LQ5 : Hid (∀ k, qv5.ownBlock = some k → R.own r k ∨ w.heap.size ≤ k) := hide (fun k hk => by
    rcases hat5 with e | e
    · exact .inl (.inr (.inr (by rw [e] at hk; exact hk)))
    · rw [e] at hk
      injection hk with hk
      have := E4.out.chs.size
      right
      omega)
  have ROW5 : Hid (w5.ownsRow 0 116 5 qv5 L5 (rwsC (R.qs ++ [(rRn n t, (Value.slice none 0 0))]))) := hide (by rw [rwsC_app, ← HL5.out, List.length_append]; exact hrow5)
  obtain ⟨qa5, qc5, hqe5⟩ := row_slice ROW5.out
  subst hqe5
  have k1 : w5.cell? ⟨r, 2, none⟩ = some R.qv := by rw [DK5.out.cell]; rfl
  have k2 : w5.frozen? ⟨r, 2, none⟩ = false := DK5.out.free 2
  have hH5 : w5.cell? ⟨r, 2, none⟩ = some R.qv ∧ w5.rangeAt g3 0 (rwC 5 n (.slice none 0 0) 0 t) := ⟨k1, G5.out.range 0 _ (by simp)⟩
  refine hK.out _ _ (fun _ => hH5) ?_
  have hHeld := hH5
  clear hK K
  clear hrow5 hgr5 hat5 hne5 hnf5
  simp only [Act.put]
  refine wpAnyU_ready (rs := [8]) (by kernel_rfl) (by simp) (AllReadyU.cons rfl (fun K hK => ?_) AllReadyU.nil)
  rw [if_pos (by rfl)]
  go_simp
  refine hK.out _ _ (fun _ => hH5) ?_
  have hHeld := hH5
  clear hK K
  clear hH5
  refine takeU 10 9 177 (.pointer (some ⟨r, 2, none⟩)) hHeld rfl rfl (by kernel_rfl) (by kernel_rfl) (by kernel_rfl) (by kernel_rfl) (by kernel_rfl) (by kernel_rfl) (fun _ _ _ h => h) (Or.inl ⟨by rfl, fun w _ => by go_simp⟩) ?_
  simp only [Act.put, List.setIfInBounds_toArray, List.set_cons_zero, List.set_cons_succ]
  refine wpAnyU_ready (rs := [10]) (by kernel_rfl) (by simp) (AllReadyU.cons rfl (fun K hK => ?_) AllReadyU.nil)
  rw [if_pos (by rfl)]
  go_simp
  refine hK.out _ _ (fun h => absurd h (by decide)) ?_
  clear hK K
  refine wpAnyU_done (by kernel_rfl) ?_ _
  refine NoPanic.normal ?_
  have B6 := But.setCell w5 r 2 (.slice qa5 L5 qc5)
  have FK6 : FkAt (w5.setCell ⟨r, 2, none⟩ (.slice qa5 L5 qc5)) r s (Value.slice a9 L9 c9) (.slice qa5 L5 qc5) (((A2 ++ [(t, xs)]) ++ B3)) := ⟨DK5.out.set 2 _, row_same F5.out (fun k hk => B6.block k (fun e => by
    obtain ⟨cs, hc⟩ := row_lies F5.out hk
    exact hc.apart DK5.out (by decide) e))⟩
  have hres : RoR w (w5.setCell ⟨r, 2, none⟩ (.slice qa5 L5 qc5)) r s R (rs ++ [rRn n t]) (Value.slice none 0 0) := DsR.done HH.out HLR.out HV.out (by exact HFL.out) HLN.out FK6 (by rw [HL5.out]; exact row_same ROW5.out (fun k hk => B6.block k (fun e => by
    obtain ⟨cs, hc⟩ := row_lies ROW5.out hk
    exact hc.apart DK5.out (by decide) e))) (CH5.out.thenBut B6 (.inl (.inl rfl))) D10.out.lie LQ5.out rfl
  revert hres
  generalize w5.setCell ⟨r, 2, none⟩ (.slice qa5 L5 qc5) = w6
  intro hres
  have HRES := hide hres
  clear hres
  go_wp2
  go_end0
  exact ⟨rfl, HRES.out⟩
set_option maxRecDepth 100000 in
set_option maxHeartbeats 1000000 in
theorem doR_rn1 (ys : List Int) (ht : play rs t = some ys) : Calls Tryz.prog 63 #[.pointer (some ⟨r, 0, none⟩), .agg (rwC 5 n (.slice none 0 0) 0 t).toArray] w fun e w' => e = .returned (.tuple #[]) ∧ RoR w w' r s R (rs ++ [rRn n t]) (.slice none 0 0) := by
  obtain ⟨A, B0, hAB0, hA, hlt, hB⟩ := h.fls.split n
  obtain ⟨I, hI⟩ : ∃ I, A.length = I := ⟨_, rfl⟩
  obtain ⟨B, hBB, hB2⟩ : ∃ B, B0 = (n, xs) :: B ∧ ∀ b ∈ B, blt n b.1 = true := by
    rcases hB with ⟨h1, _⟩ | ⟨ys, B', h1, h2, h3⟩
    · rw [hf] at h1; cases h1
    · rw [hf] at h1
      injection h1 with h1
      subst h1
      exact ⟨B', h2, h3⟩
  subst hBB
  have hAB := hAB0
  have hxs : fl (play rs) n = xs := by simp [fl, hf]
  have HLR : Hid (Lraw s (play rs) (rRn n t)) := hide ⟨.inr (.inr (.inr (.inr ⟨n, t, xs, rfl, hn, hnt', hf, hnt⟩))), fun h2 => by cases h2⟩
  have hF2 : FL (upd (play rs) n none) (A ++ B) := by
    have := h.fls
    rw [hAB] at this
    exact this.turn hlt hB2
  obtain ⟨A2, B3, hAB3, hA2, hlt2, hB3⟩ := hF2.split t
  obtain ⟨J, hJ⟩ : ∃ J, A2.length = J := ⟨_, rfl⟩
  have htf : upd (play rs) n none t = play rs t := upd_ne _ _ (Ne.symm hnt)
  rw [htf] at hB3
  obtain ⟨B2, hBB2, hB4⟩ : ∃ B2, B3 = (t, ys) :: B2 ∧ ∀ b ∈ B2, blt t b.1 = true := by
    rcases hB3 with ⟨h1, _⟩ | ⟨zs, B', h1, h2, h3⟩
    · rw [ht] at h1; cases h1
    · rw [ht] at h1
      injection h1 with h1
      subst h1
      exact ⟨B', h2, h3⟩
  subst hBB2
  have HFL : Hid (FL (doR (play rs) (rRn n t)) (A2 ++ (t, xs) :: B2)) := hide (by
    have h3 := hF2
    rw [hAB3] at h3
    have h4 := h3.set hlt2 hB4 xs
    rw [ren_upd _ hnt] at h4
    rw [do_rn, hxs]
    exact h4)
  have hlen : (A ++ B).length = (A2 ++ (t, ys) :: B2).length := by rw [hAB3]
  have HLN : Hid ((A2 ++ (t, xs) :: B2).length ≤ rs.length + 1) := hide (by
    have := h.few
    rw [hAB] at this
    simp at this hlen ⊢
    omega)
  have HLA2 : Hid ((A ++ B).length ≤ 1099511000000) := hide (by have h1 := h.few; rw [hAB] at h1; have h2 := len_wt rs; simp at h1 ⊢; omega)
  have HFD2 : Hid (∀ (fv : Value) (W : World), FkAt W r s fv R.qv (A ++ B) → Calls Tryz.prog 70 #[.pointer (some ⟨r, 0, none⟩), .string t] W fun e w' => e = .returned (.tuple #[.int .i64 (J : Int), .bool true]) ∧ Below W.heap.size W w') := hide (fun fv W hW => by
    have := find_any r s fv R.qv (A ++ B) (upd (play rs) n none) t W hW hF2 HLA2.out
    rw [← hA2, hJ, htf, ht] at this
    exact this)
  have HAB2 := hide hAB3
  have HJ := hide hJ
  clear hB hB2 hn hAB0 hxs hF2 hAB3 hA2 hlt2 hB3 hJ htf hB4 hlen hnt'
  obtain ⟨fa, fc, hfe⟩ := row_slice h.fk.row
  have HH := hide h
  have HL : Hid (R.l.length ≤ 1099511000000) := hide (by have h1 := h.few; have h2 := len_wt rs; omega)
  have hrl : R.qs.length = rs.length := by rw [← h.raw]; simp
  have HRL : Hid (R.qs.length ≤ 1099511000000) := hide (by have h2 := len_wt rs; omega)
  clear hrl
  have HFE := hide hfe
  have HAB := hide hAB
  have HA := hide hA
  have HLTA := hide hlt
  have HV := hide hv
  have hfind : ∀ (W : World), FkAt W r s R.fv R.qv R.l → Calls Tryz.prog 70 #[.pointer (some ⟨r, 0, none⟩), .string n] W fun e w' => e = .returned (.tuple #[.int .i64 (I : Int), .bool true]) ∧ Below W.heap.size W w' := fun W hW => by
    have := find_any r s R.fv R.qv R.l (play rs) n W hW h.fls HL.out
    rw [← hA, hI, hf] at this
    exact this
  have HFD := hide hfind
  clear h hAB hA hlt hv hfe hfind hwt
  go_enter Tryz.func63, Tryz.ntmps63
  go_wp2_with (refine step_box (cs := rwC 5 n (.slice none 0 0) 0 t) rfl rfl ?_)
  intro w1 g3 hg3 hle3 hb1
  have D1 : Hid (DsR w w1 r s R R.fv R.l (rRn n t) (Value.slice none 0 0) g3) := hide (HH.out.ds hb1 hg3 hle3)
  have c1 : w1.cell? ⟨g3, 1, none⟩ = some (.string n) := D1.out.r1
  clear hg3 hle3 hb1
  go_upto_region 12 with (go_at_call 70; refine (HFD.out _ D1.out.fk).mono ?_; rintro e w2 ⟨rfl, hb2⟩; have D2 := hide (D1.out.below hb2); have c0 : w2.cell? ⟨g3, 0, none⟩ = some (.int .i64 5) := D2.out.r0; clear c1 D1 hb2)
  clear HFD
  have D2' := D2
  rw [HAB.out] at D2'
  obtain ⟨g, cap, hfv, hcells⟩ := D2'.out.at'
  have HFV := hide hfv
  obtain ⟨L, hL⟩ : ∃ L, (A ++ (n, xs) :: B).length = L := ⟨_, rfl⟩
  rw [hL] at hfv
  have HIX : Hid (∀ z : World, (Instr.indexAt 104 (.slice (some ⟨g, 0, none⟩) L cap) (.int .i64 (I : Int))).run Tryz.prog z = .ok (.pointer (some ⟨g, I * 2, none⟩)) z) := hide (fun z => vw_at rFi g L cap I (by rw [← hL, ← hI]; simp) z)
  have HC1 : Hid (∀ z : World, Below w2.heap.size w2 z → z.cell? ⟨r, 1, none⟩ = some (.slice (some ⟨g, 0, none⟩) L cap)) := hide (fun z hz => by rw [← hfv]; exact (D2.out.below hz).c1)
  have HCB : Hid (∀ z : World, Below w2.heap.size w2 z → z.cell? ⟨g, I * 2 + 1, none⟩ = some (.string (str xs))) := hide (fun z hz => by rw [← hI]; exact (hcells z hz).2.1)
  have HFZ : Hid (∀ z : World, Below w2.heap.size w2 z → z.frozen? ⟨g, I * 2 + 1, none⟩ = false) := hide (fun z hz => by rw [← hI]; exact (hcells z hz).2.2.1)
  have HRG : Hid (∀ z : World, Below w2.heap.size w2 z → z.rangeAt g (I * 2) [.string n, .string (str xs)]) := hide (fun z hz => by rw [← hI]; exact (hcells z hz).2.2.2)
  have HLL := hide hL
  have HII := hide hI
  clear hfv hcells hL c0 hI
  obtain ⟨vA, hto, hvt⟩ := (Vw.of_row D2'.out.fk.row).to rFi (k := I) (by rw [← HII.out]; simp)
  obtain ⟨vB, hfr, hvf⟩ := (Vw.of_row D2'.out.fk.row).from rFi (k := I + 1) (by rw [← HII.out]; simp)
  rw [HFV.out, HLL.out] at hto hfr
  have HTO := hide hto
  have hfr' : ∀ W : World, (Instr.slice 104 (.slice (some ⟨g, 0, none⟩) L cap) (some (.int .i64 ((I : Int) + 1))) none none).run Tryz.prog W = .ok vB W := fun W => by have := hfr W; push_cast at this; exact this
  have HFR := hide hfr'
  have HIB : Hid ((I : Int) + 1 ≤ 1099511000001) := hide (by have h1 := HL.out; rw [HAB.out, List.length_append] at h1; have h2 := HII.out; omega)
  have c1 := HC1.out _ (Below.refl _ _)
  have hix := HIX.out
  clear hto hfr hfr'
  go_wp2_with (first | (refine step_loadR wFi rfl rfl [.string n, .string (str xs)] (HRG.out _ (Below.refl _ _)) rfl ?_) | (refine step_alloc zFi rfl ?_))
  intro w3 g7 hg7 hle7 hb3
  go_wp2_with (refine step_storeA wFi rfl rfl rfl hg7 rfl (One.fi _ _) rfl ?_)
  intro w4 hg7' hbut4
  have Y4 := hide (hb3.trans (hbut4.below hle7))
  have G7 := hide hg7'
  have L7 := hide hle7
  have HVT : Hid (∀ z : World, Below w4.heap.size w4 z → Vw z 135 2 vA A.length (filC A)) := hide (fun z hz => by
    have hz2 := Y4.out.trans (hz.mono Y4.out.size)
    have := hvt z (Vw.of_row (D2'.out.below hz2).fk.row)
    rw [← filC_take, ← HII.out, List.take_left' rfl] at this
    exact this)
  have HVF : Hid (∀ z : World, Below w4.heap.size w4 z → Vw z 135 2 vB B.length (filC B)) := hide (fun z hz => by
    have hz2 := Y4.out.trans (hz.mono Y4.out.size)
    have := hvf z (Vw.of_row (D2'.out.below hz2).fk.row)
    rw [← filC_drop, ← HII.out] at this
    have e1 : (A ++ (n, xs) :: B).drop (A.length + 1) = B := by rw [← List.drop_drop, List.drop_left' rfl]; rfl
    have e2 : (A ++ (n, xs) :: B).length - (A.length + 1) = B.length := by simp; omega
    rw [e1, e2] at this
    exact this)
  clear hvt hvf hg7 hg7' hle7 hb3 hbut4 c1
  go_wp2_with fail
  refine wp_region_noPanic ?_
  refine wp_region_U (q := 19) (S := fun z : World => Below w4.heap.size w4 z) (by kernel_rfl) ?_
  have Z0 := hide ((Below.refl w4.heap.size w4).drew)
  have hHeld := Z0.out
  have HC14 : Hid (∀ z : World, Below w4.heap.size w4 z → z.cell? ⟨r, 1, none⟩ = some (.slice (some ⟨g, 0, none⟩) L cap)) := hide (fun z hz => HC1.out z (Y4.out.trans (hz.mono Y4.out.size)))
  obtain ⟨f1a, f1b⟩ := wrapN ((I : Int) + 1) (by omega) (by have := HIB.out; omega)
  refine takeU 19 0 97 (.pointer (some ⟨r, 0, none⟩)) hHeld rfl rfl (by kernel_rfl) (by kernel_rfl) (by kernel_rfl) (by kernel_rfl) (by kernel_rfl) (by kernel_rfl) (fun _ _ _ h => h) (Or.inl ⟨by rfl, fun w _ => by go_simp⟩) ?_
  simp only [Act.put, List.setIfInBounds_toArray, List.set_cons_zero, List.set_cons_succ]
  refine takeU 19 2 99 (.pointer (some ⟨r, 0, none⟩)) hHeld rfl rfl (by kernel_rfl) (by kernel_rfl) (by kernel_rfl) (by kernel_rfl) (by kernel_rfl) (by kernel_rfl) (fun _ _ _ h => h) (Or.inl ⟨by rfl, fun w _ => by go_simp⟩) ?_
  simp only [Act.put, List.setIfInBounds_toArray, List.set_cons_zero, List.set_cons_succ]
  refine takeU 19 3 100 (.pointer (some ⟨r, 0, none⟩)) hHeld rfl rfl (by kernel_rfl) (by kernel_rfl) (by kernel_rfl) (by kernel_rfl) (by kernel_rfl) (by kernel_rfl) (fun _ _ _ h => h) (Or.inl ⟨by rfl, fun w _ => by go_simp⟩) ?_
  simp only [Act.put, List.setIfInBounds_toArray, List.set_cons_zero, List.set_cons_succ]
  refine takeU 19 4 101 (.pointer (some ⟨r, 1, none⟩)) hHeld rfl rfl (by kernel_rfl) (by kernel_rfl) (by kernel_rfl) (by kernel_rfl) (by kernel_rfl) (by kernel_rfl) (fun _ _ _ h => h) (Or.inl ⟨by rfl, fun w _ => by go_simp⟩) ?_
  simp only [Act.put, List.setIfInBounds_toArray, List.set_cons_zero, List.set_cons_succ]
  refine takeU 19 5 102 (.slice (some ⟨g, 0, none⟩) L cap) hHeld rfl rfl (by kernel_rfl) (by kernel_rfl) (by kernel_rfl) (by kernel_rfl) (by kernel_rfl) (by kernel_rfl) (fun _ _ _ h => h) (Or.inl ⟨by rfl, fun w hw => by have hw' : w.cell? ⟨r, 1, none⟩ = some (.slice (some ⟨g, 0, none⟩) L cap) := (fun hw => HC14.out _ hw) hw; go_simp⟩) ?_
  simp only [Act.put, List.setIfInBounds_toArray, List.set_cons_zero, List.set_cons_succ]
  refine takeU 19 6 103 (.int .i64 (I : Int)) hHeld rfl rfl (by kernel_rfl) (by kernel_rfl) (by kernel_rfl) (by kernel_rfl) (by kernel_rfl) (by kernel_rfl) (fun _ _ _ h => h) (Or.inl ⟨by rfl, fun w _ => by go_simp⟩) ?_
  simp only [Act.put, List.setIfInBounds_toArray, List.set_cons_zero, List.set_cons_succ]
  refine takeU 19 7 104 (vA) hHeld rfl rfl (by kernel_rfl) (by kernel_rfl) (by kernel_rfl) (by kernel_rfl) (by kernel_rfl) (by kernel_rfl) (fun _ _ _ h => h) (Or.inl ⟨by rfl, fun w h => run_op rfl (HTO.out w)⟩) ?_
  simp only [Act.put, List.setIfInBounds_toArray, List.set_cons_zero, List.set_cons_succ]
  refine takeU 19 9 106 (.pointer (some ⟨r, 0, none⟩)) hHeld rfl rfl (by kernel_rfl) (by kernel_rfl) (by kernel_rfl) (by kernel_rfl) (by kernel_rfl) (by kernel_rfl) (fun _ _ _ h => h) (Or.inl ⟨by rfl, fun w _ => by go_simp⟩) ?_
  simp only [Act.put, List.setIfInBounds_toArray, List.set_cons_zero, List.set_cons_succ]
  refine takeU 19 10 107 (.pointer (some ⟨r, 0, none⟩)) hHeld rfl rfl (by kernel_rfl) (by kernel_rfl) (by kernel_rfl) (by kernel_rfl) (by kernel_rfl) (by kernel_rfl) (fun _ _ _ h => h) (Or.inl ⟨by rfl, fun w _ => by go_simp⟩) ?_
  simp only [Act.put, List.setIfInBounds_toArray, List.set_cons_zero, List.set_cons_succ]
  refine takeU 19 11 108 (.pointer (some ⟨r, 1, none⟩)) hHeld rfl rfl (by kernel_rfl) (by kernel_rfl) (by kernel_rfl) (by kernel_rfl) (by kernel_rfl) (by kernel_rfl) (fun _ _ _ h => h) (Or.inl ⟨by rfl, fun w _ => by go_simp⟩) ?_
  simp only [Act.put, List.setIfInBounds_toArray, List.set_cons_zero, List.set_cons_succ]
  refine takeU 19 12 109 (.slice (some ⟨g, 0, none⟩) L cap) hHeld rfl rfl (by kernel_rfl) (by kernel_rfl) (by kernel_rfl) (by kernel_rfl) (by kernel_rfl) (by kernel_rfl) (fun _ _ _ h => h) (Or.inl ⟨by rfl, fun w hw => by have hw' : w.cell? ⟨r, 1, none⟩ = some (.slice (some ⟨g, 0, none⟩) L cap) := (fun hw => HC14.out _ hw) hw; go_simp⟩) ?_
  simp only [Act.put, List.setIfInBounds_toArray, List.set_cons_zero, List.set_cons_succ]
  refine takeU 19 13 110 (.int .i64 (I : Int)) hHeld rfl rfl (by kernel_rfl) (by kernel_rfl) (by kernel_rfl) (by kernel_rfl) (by kernel_rfl) (by kernel_rfl) (fun _ _ _ h => h) (Or.inl ⟨by rfl, fun w _ => by go_simp⟩) ?_
  simp only [Act.put, List.setIfInBounds_toArray, List.set_cons_zero, List.set_cons_succ]
  refine takeU 19 14 111 (.int .i64 ((I : Int) + 1)) hHeld rfl rfl (by kernel_rfl) (by kernel_rfl) (by kernel_rfl) (by kernel_rfl) (by kernel_rfl) (by kernel_rfl) (fun _ _ _ h => h) (Or.inl ⟨by rfl, fun w _ => by go_simp⟩) ?_
  simp only [Act.put, List.setIfInBounds_toArray, List.set_cons_zero, List.set_cons_succ]
  refine takeU 19 15 112 (vB) hHeld rfl rfl (by kernel_rfl) (by kernel_rfl) (by kernel_rfl) (by kernel_rfl) (by kernel_rfl) (by kernel_rfl) (fun _ _ _ h => h) (Or.inl ⟨by rfl, fun w h => run_op rfl (HFR.out w)⟩) ?_
  simp only [Act.put, List.setIfInBounds_toArray, List.set_cons_zero, List.set_cons_succ]
  have ONE1 : Hid (∀ x ∈ filC A, x.oneCell' = true) := hide (filC_one A)
  have HLA : Hid (A.length ≤ 1099511000000 ∧ B.length ≤ 1099511000000 ∧ A.length + B.length ≤ 1099511000000) := hide (by have := HL.out; rw [HAB.out, List.length_append, List.length_cons] at this; omega)
  refine wpAnyU_ready (rs := [1]) (by kernel_rfl) (by simp) (AllReadyU.cons rfl (fun K hK => ?_) AllReadyU.nil)
  rw [if_pos (by rfl)]
  refine wp_0F Z0.out.size ?_
  intro w5 g0 hv0 hb5
  have Z5 := hide (Z0.out.trans (hb5.mono Z0.out.size))
  have V0 := hide hv0
  refine hK.out _ _ (fun _ => Z5.out) ?_
  have hHeld := Z5.out
  clear hK K
  clear hv0 hb5
  simp only [Act.put]
  refine wpAnyU_ready (rs := [8]) (by kernel_rfl) (by simp) (AllReadyU.cons rfl (fun K hK => ?_) AllReadyU.nil)
  rw [if_pos (by rfl)]
  refine wp_app0 rFi rfl rfl V0.out (HVT.out _ Z5.out) ONE1.out (by have := HLA.out.1; omega) Z5.out.size ?_
  intro v29 w7 hv29 hb7
  have Z7 := hide (Z5.out.trans (hb7.mono Z5.out.size))
  have V29 := hide hv29
  refine hK.out _ _ (fun _ => Z7.out) ?_
  have hHeld := Z7.out
  clear hK K
  clear hv29 hb7
  simp only [Act.put]
  refine wpAnyU_ready (rs := [16]) (by kernel_rfl) (by simp) (AllReadyU.cons rfl (fun K hK => ?_) AllReadyU.nil)
  rw [if_pos (by rfl)]
  refine wp_appV rFi rfl rfl V29.out (HVF.out _ Z7.out) (filC_one _) (by have := HLA.out; omega) Z7.out.size ?_
  intro v43 w8 hv43 hgr8 hat8
  obtain ⟨L4, hL4⟩ : ∃ L4, (A ++ B).length = L4 := ⟨_, rfl⟩
  have HL4 := hide hL4
  clear hL4
  have V8 : Hid (w8.ownsRow w4.heap.size 135 2 v43 L4 (filC (A ++ B))) := hide (by rw [filC_app, ← HL4.out, List.length_append]; exact hv43)
  have Z8 := hide (Z7.out.trans (grown_below hgr8 (fun k hk => row_ge V29.out hk) Z7.out.size))
  have Y8 := hide (Y4.out.trans (Z8.out.mono Y4.out.size))
  have D8 := hide (D2'.out.below Y8.out)
  obtain ⟨a4, c4, hve4⟩ := row_slice V8.out
  subst hve4
  have k1 : w8.cell? ⟨r, 1, none⟩ = some (.slice (some ⟨g, 0, none⟩) L cap) := HC14.out _ Z8.out
  have k2 : w8.frozen? ⟨r, 1, none⟩ = false := D8.out.fk.blk.free 1
  refine hK.out _ _ (fun _ => Z8.out) ?_
  have hHeld := Z8.out
  clear hK K
  clear hv43 hgr8 hat8
  simp only [Act.put]
  refine wpAnyU_ready (rs := [17]) (by kernel_rfl) (by simp) (AllReadyU.cons rfl (fun K hK => ?_) AllReadyU.nil)
  rw [if_pos (by rfl)]
  go_simp
  refine hK.out _ _ (fun _ => Z8.out) ?_
  have hHeld := Z8.out
  clear hK K
  refine takeU 19 18 115 (.pointer (some ⟨r, 1, none⟩)) hHeld rfl rfl (by kernel_rfl) (by kernel_rfl) (by kernel_rfl) (by kernel_rfl) (by kernel_rfl) (by kernel_rfl) (fun _ _ _ h => h) (Or.inl ⟨by rfl, fun w _ => by go_simp⟩) ?_
  simp only [Act.put, List.setIfInBounds_toArray, List.set_cons_zero, List.set_cons_succ]
  refine wpAnyU_ready (rs := [19]) (by kernel_rfl) (by simp) (AllReadyU.cons rfl (fun K hK => ?_) AllReadyU.nil)
  rw [if_pos (by rfl)]
  go_simp
  refine hK.out _ _ (fun h => absurd h (by decide)) ?_
  clear hK K
  refine wpAnyU_done (by kernel_rfl) ?_ _
  refine NoPanic.normal ?_
  have B6 := But.setCell w8 r 1 (.slice a4 L4 c4)
  have D6 : Hid (DsR w (w8.setCell ⟨r, 1, none⟩ (.slice a4 L4 c4)) r s R (.slice a4 L4 c4) (A ++ B) (rRn n t) (Value.slice none 0 0) g3) := hide (by
    have hne : ∀ {k : Nat} {t : TypeId} {cs : List Value}, Blk w8 k t cs → t ≠ 107 → k ≠ r := fun hc ht => hc.apart D8.out.fk.blk ht
    refine ⟨⟨D8.out.fk.blk.set 1 _, ?_⟩, ?_, ?_, D8.out.new, D8.out.chs.thenBut B6 (.inl (.inl rfl)), fun k hk => ?_, D8.out.off⟩
    · rw [HL4.out]
      refine row_same (Vw.row0 V8.out) (fun k hk => B6.block k ?_)
      obtain ⟨cs, hc⟩ := row_lies V8.out hk
      exact hne hc (by decide)
    · refine row_same D8.out.row (fun k hk => B6.block k ?_)
      obtain ⟨cs, hc⟩ := row_lies D8.out.row hk
      exact hne hc (by decide)
    · exact D8.out.gb.but B6 (hne D8.out.gb (by decide))
    · right
      have h1 := row_ge V8.out hk
      have h2 := D2'.out.chs.size
      have h3 := Y4.out.size
      omega)
  have G76 : Hid (Blk (w8.setCell ⟨r, 1, none⟩ (.slice a4 L4 c4)) g7 135 [.string n, .string (str xs)]) := hide ((G7.out.on Z8.out).but B6 ((G7.out.on Z8.out).apart D8.out.fk.blk (by decide)))
  have N7 : Hid (∀ k, (Value.slice a4 L4 c4).ownBlock = some k → k ≠ g7) := hide (fun k hk e => by
    have h1 := row_ge V8.out hk
    have h2 := G7.out.lt
    omega)
  revert D6 G76
  generalize w8.setCell ⟨r, 1, none⟩ (.slice a4 L4 c4) = w6
  intro D6 G76
  clear k1 k2 hix hHeld f1a f1b B6 V8 Z8 Y8 D8 V29 Z7 V0 Z5 Z0 HC14 HVT HVF HTO HFR
  have c0 : w6.cell? ⟨g3, 0, none⟩ = some (.int .i64 5) := D6.out.r0
  have c44 : w6.cell? ⟨g3, 4, none⟩ = some (.string t) := D6.out.r4
  go_wp2_with (go_at_call 70; refine (HFD2.out _ _ D6.out.fk).mono ?_; rintro e w8 ⟨rfl, hb8⟩; have D8 := hide (D6.out.below hb8); have G78 := hide (G76.out.on hb8); clear hb8)
  clear c0 c44 HFD2
  have HC4 : Hid (∀ z : World, Below w8.heap.size w8 z → z.cell? ⟨g3, 4, none⟩ = some (.string t)) := hide (fun z hz => (D8.out.below hz).r4)
  have HC7 : Hid (∀ z : World, Below w8.heap.size w8 z → z.cell? ⟨g7, 1, none⟩ = some (.string (str xs))) := hide (fun z hz => by rw [(G78.out.on hz).cell]; rfl)
  have HC8 : Hid (∀ z : World, Below w8.heap.size w8 z → z.cell? ⟨r, 1, none⟩ = some (.slice a4 L4 c4)) := hide (fun z hz => (D8.out.below hz).c1)
  have D8' := D8
  rw [HAB2.out] at D8'
  obtain ⟨g', cap', hfv2, hcells2⟩ := D8'.out.at'
  have hL42 : (A2 ++ (t, ys) :: B2).length = L4 := by rw [← HAB2.out, HL4.out]
  have HFV2 := hide hfv2
  injection hfv2 with e1 e2 e3
  clear e2
  subst e1 e3
  have HIX2 : Hid (∀ z : World, (Instr.indexAt 104 (.slice (some ⟨g', 0, none⟩) L4 c4) (.int .i64 (J : Int))).run Tryz.prog z = .ok (.pointer (some ⟨g', J * 2, none⟩)) z) := hide (fun z => vw_at rFi g' L4 c4 J (by rw [← hL42, ← HJ.out]; simp) z)
  have HCB2 : Hid (∀ z : World, Below w8.heap.size w8 z → z.cell? ⟨g', J * 2 + 1, none⟩ = some (.string (str ys))) := hide (fun z hz => by rw [← HJ.out]; exact (hcells2 z hz).2.1)
  have HFZ2 : Hid (∀ z : World, Below w8.heap.size w8 z → z.frozen? ⟨g', J * 2 + 1, none⟩ = false) := hide (fun z hz => by rw [← HJ.out]; exact (hcells2 z hz).2.2.1)
  clear hcells2 hL42
  refine wp_region_noPanic ?_
  refine wp_region_U (q := 9) (S := fun z : World => Below w8.heap.size w8 z) (by kernel_rfl) ?_
  have Z0 := hide ((Below.refl w8.heap.size w8).drew)
  have hHeld := Z0.out
  refine takeU 9 0 127 (.pointer (some ⟨r, 0, none⟩)) hHeld rfl rfl (by kernel_rfl) (by kernel_rfl) (by kernel_rfl) (by kernel_rfl) (by kernel_rfl) (by kernel_rfl) (fun _ _ _ h => h) (Or.inl ⟨by rfl, fun w _ => by go_simp⟩) ?_
  simp only [Act.put, List.setIfInBounds_toArray, List.set_cons_zero, List.set_cons_succ]
  refine takeU 9 1 128 (.pointer (some ⟨r, 0, none⟩)) hHeld rfl rfl (by kernel_rfl) (by kernel_rfl) (by kernel_rfl) (by kernel_rfl) (by kernel_rfl) (by kernel_rfl) (fun _ _ _ h => h) (Or.inl ⟨by rfl, fun w _ => by go_simp⟩) ?_
  simp only [Act.put, List.setIfInBounds_toArray, List.set_cons_zero, List.set_cons_succ]
  refine takeU 9 2 129 (.pointer (some ⟨r, 1, none⟩)) hHeld rfl rfl (by kernel_rfl) (by kernel_rfl) (by kernel_rfl) (by kernel_rfl) (by kernel_rfl) (by kernel_rfl) (fun _ _ _ h => h) (Or.inl ⟨by rfl, fun w _ => by go_simp⟩) ?_
  simp only [Act.put, List.setIfInBounds_toArray, List.set_cons_zero, List.set_cons_succ]
  refine takeU 9 3 130 (.slice (some ⟨g', 0, none⟩) L4 c4) hHeld rfl rfl (by kernel_rfl) (by kernel_rfl) (by kernel_rfl) (by kernel_rfl) (by kernel_rfl) (by kernel_rfl) (fun _ _ _ h => h) (Or.inl ⟨by rfl, fun w hw => by have hw' : w.cell? ⟨r, 1, none⟩ = some (.slice (some ⟨g', 0, none⟩) L4 c4) := (fun hw => HC8.out _ hw) hw; go_simp⟩) ?_
  simp only [Act.put, List.setIfInBounds_toArray, List.set_cons_zero, List.set_cons_succ]
  refine takeU 9 4 131 (.int .i64 (J : Int)) hHeld rfl rfl (by kernel_rfl) (by kernel_rfl) (by kernel_rfl) (by kernel_rfl) (by kernel_rfl) (by kernel_rfl) (fun _ _ _ h => h) (Or.inl ⟨by rfl, fun w _ => by go_simp⟩) ?_
  simp only [Act.put, List.setIfInBounds_toArray, List.set_cons_zero, List.set_cons_succ]
  refine takeU 9 5 132 (.pointer (some ⟨g7, 1, none⟩)) hHeld rfl rfl (by kernel_rfl) (by kernel_rfl) (by kernel_rfl) (by kernel_rfl) (by kernel_rfl) (by kernel_rfl) (fun _ _ _ h => h) (Or.inl ⟨by rfl, fun w _ => by go_simp⟩) ?_
  simp only [Act.put, List.setIfInBounds_toArray, List.set_cons_zero, List.set_cons_succ]
  refine takeU 9 6 133 (.string (str xs)) hHeld rfl rfl (by kernel_rfl) (by kernel_rfl) (by kernel_rfl) (by kernel_rfl) (by kernel_rfl) (by kernel_rfl) (fun _ _ _ h => h) (Or.inl ⟨by rfl, fun w hw => by have hw' : w.cell? ⟨g7, 1, none⟩ = some (.string (str xs)) := (fun hw => HC7.out _ hw) hw; go_simp⟩) ?_
  simp only [Act.put, List.setIfInBounds_toArray, List.set_cons_zero, List.set_cons_succ]
  have hix := HIX2.out
  refine wpAnyU_ready (rs := [7]) (by kernel_rfl) (by simp) (AllReadyU.cons rfl (fun K hK => ?_) AllReadyU.nil)
  rw [if_pos (by rfl)]
  go_simp
  refine hK.out _ _ (fun _ => Z0.out) ?_
  have hHeld := Z0.out
  clear hK K
  refine takeU 9 8 135 (.pointer (some ⟨g', J * 2 + 1, none⟩)) hHeld rfl rfl (by kernel_rfl) (by kernel_rfl) (by kernel_rfl) (by kernel_rfl) (by kernel_rfl) (by kernel_rfl) (fun _ _ _ h => h) (Or.inl ⟨by rfl, fun w _ => by go_simp⟩) ?_
  simp only [Act.put, List.setIfInBounds_toArray, List.set_cons_zero, List.set_cons_succ]
  have k1 := HCB2.out _ Z0.out
  have k2 := HFZ2.out _ Z0.out
  refine wpAnyU_ready (rs := [9]) (by kernel_rfl) (by simp) (AllReadyU.cons rfl (fun K hK => ?_) AllReadyU.nil)
  rw [if_pos (by rfl)]
  go_simp
  refine hK.out _ _ (fun h => absurd h (by decide)) ?_
  clear hK K
  refine wpAnyU_done (by kernel_rfl) ?_ _
  refine NoPanic.normal ?_
  have D10 : Hid (DsR w ((w8.setCell ⟨g', J * 2 + 1, none⟩ (.string (str xs))).drew) r s R (.slice (some ⟨g', 0, none⟩) L4 c4) (A2 ++ (t, xs) :: B2) (rRn n t) (Value.slice none 0 0) g3) := hide (by
    have := D8'.out.setF HFV2.out xs
    rw [HJ.out] at this
    exact this.below ((Below.refl _ _).drew))
  revert D10
  generalize (w8.setCell ⟨g', J * 2 + 1, none⟩ (.string (str xs))).drew = w10
  intro D10
  clear k1 k2 hix hHeld
  go_wp2_with fail
  have HRE5 : Hid (∃ q1 q2, R.qv = .slice q1 R.qs.length q2) := hide (by obtain ⟨q1, q2, hq⟩ := row_slice HH.out.row; exact ⟨q1, q2, hq⟩)
  obtain ⟨L5, hL5⟩ : ∃ L5, (R.qs ++ [(rRn n t, (Value.slice none 0 0))]).length = L5 := ⟨_, rfl⟩
  have HL5 := hide hL5
  clear hL5
  refine wp_region_noPanic ?_
  refine wp_region_U (q := 10) (S := fun z : World => z.cell? ⟨r, 2, none⟩ = some R.qv ∧ z.rangeAt g3 0 (rwC 5 n (.slice none 0 0) 0 t)) (by kernel_rfl) ?_
  have Z0 := hide ((Below.refl w10.heap.size w10).drew)
  have E0 := hide (D10.out.below Z0.out)
  have HIR : Hid ((Tryz.prog.info? 116).map (·.size) = some (rwC 5 n (.slice none 0 0) 0 t).length) := hide (by rw [wRw.size]; rfl)
  have gb0 : Blk w10.drew g3 116 (rwC 5 n (.slice none 0 0) 0 t) := E0.out.gb
  have hHeld : w10.drew.cell? ⟨r, 2, none⟩ = some R.qv ∧ w10.drew.rangeAt g3 0 (rwC 5 n (.slice none 0 0) 0 t) := ⟨E0.out.c2, gb0.range 0 _ (by simp)⟩
  clear gb0
  refine takeU 10 0 168 (.pointer (some ⟨r, 0, none⟩)) hHeld rfl rfl (by kernel_rfl) (by kernel_rfl) (by kernel_rfl) (by kernel_rfl) (by kernel_rfl) (by kernel_rfl) (fun _ _ _ h => h) (Or.inl ⟨by rfl, fun w _ => by go_simp⟩) ?_
  simp only [Act.put, List.setIfInBounds_toArray, List.set_cons_zero, List.set_cons_succ]
  refine takeU 10 1 169 (.pointer (some ⟨r, 0, none⟩)) hHeld rfl rfl (by kernel_rfl) (by kernel_rfl) (by kernel_rfl) (by kernel_rfl) (by kernel_rfl) (by kernel_rfl) (fun _ _ _ h => h) (Or.inl ⟨by rfl, fun w _ => by go_simp⟩) ?_
  simp only [Act.put, List.setIfInBounds_toArray, List.set_cons_zero, List.set_cons_succ]
  refine takeU 10 2 170 (.pointer (some ⟨r, 0, none⟩)) hHeld rfl rfl (by kernel_rfl) (by kernel_rfl) (by kernel_rfl) (by kernel_rfl) (by kernel_rfl) (by kernel_rfl) (fun _ _ _ h => h) (Or.inl ⟨by rfl, fun w _ => by go_simp⟩) ?_
  simp only [Act.put, List.setIfInBounds_toArray, List.set_cons_zero, List.set_cons_succ]
  refine takeU 10 3 171 (.pointer (some ⟨r, 2, none⟩)) hHeld rfl rfl (by kernel_rfl) (by kernel_rfl) (by kernel_rfl) (by kernel_rfl) (by kernel_rfl) (by kernel_rfl) (fun _ _ _ h => h) (Or.inl ⟨by rfl, fun w _ => by go_simp⟩) ?_
  simp only [Act.put, List.setIfInBounds_toArray, List.set_cons_zero, List.set_cons_succ]
  refine takeU 10 4 172 (R.qv) hHeld rfl rfl (by kernel_rfl) (by kernel_rfl) (by kernel_rfl) (by kernel_rfl) (by kernel_rfl) (by kernel_rfl) (fun _ _ _ h => h) (Or.inl ⟨by rfl, fun w hw => by have hw' : w.cell? ⟨r, 2, none⟩ = some (R.qv) := (fun h => h.1) hw; go_simp⟩) ?_
  simp only [Act.put, List.setIfInBounds_toArray, List.set_cons_zero, List.set_cons_succ]
  refine takeU 10 5 173 (.agg (rwC 5 n (.slice none 0 0) 0 t).toArray) hHeld rfl rfl (by kernel_rfl) (by kernel_rfl) (by kernel_rfl) (by kernel_rfl) (by kernel_rfl) (by kernel_rfl) (fun _ _ _ h => h) (yieldsIf_load_mid (by rfl) _ _ rfl g3 0 rfl _ _ (fun w h => h.2) Tryz.underlying116 rfl HIR.out) ?_
  simp only [Act.put, List.setIfInBounds_toArray, List.set_cons_zero, List.set_cons_succ]
  refine wpAnyU_ready (rs := [6]) (by kernel_rfl) (by simp) (AllReadyU.cons rfl (fun K hK => ?_) AllReadyU.nil)
  rw [if_pos (by rfl)]
  refine wp_oneR (r := rRn n t) (v := (Value.slice none 0 0)) ⟨_, _, _, rfl⟩ rfl ?_
  intro w4 u4 hu4 hb4
  have E4 := hide (E0.out.below hb4)
  have HU4 := hide hu4
  have gb0 : Blk w4 g3 116 (rwC 5 n (.slice none 0 0) 0 t) := E4.out.gb
  have hH4 : w4.cell? ⟨r, 2, none⟩ = some R.qv ∧ w4.rangeAt g3 0 (rwC 5 n (.slice none 0 0) 0 t) := ⟨E4.out.c2, gb0.range 0 _ (by simp)⟩
  clear gb0
  refine hK.out _ _ (fun _ => hH4) ?_
  have hHeld := hH4
  clear hK K
  clear hu4 hb4 hH4
  simp only [Act.put]
  refine wpAnyU_ready (rs := [7]) (by kernel_rfl) (by simp) (AllReadyU.cons rfl (fun K hK => ?_) AllReadyU.nil)
  rw [if_pos (by rfl)]
  refine wp_appV rRw rfl rfl E4.out.row HU4.out (rwsC_one _ (fun x hx => by simp at hx; subst hx; exact ⟨_, _, _, rfl⟩)) (by have := HRL.out; omega) (Nat.zero_le _) ?_
  intro qv5 w5 hrow5 hgr5 hat5
  have hne5 : ∀ k, R.qv.ownBlock = some k → k ≠ r := fun k hk e => by
    obtain ⟨cs, hc⟩ := row_lies E4.out.row hk
    exact hc.apart E4.out.fk.blk (by decide) e
  have hnf5 : ∀ k, (Value.slice (some ⟨g', 0, none⟩) L4 c4).ownBlock = some k → R.qv.ownBlock ≠ some k := fun k hk e => by
    obtain ⟨cs, hc⟩ := row_lies E4.out.row e
    obtain ⟨cs', hc'⟩ := row_lies E4.out.fk.row hk
    exact hc.apart hc' (by decide) rfl
  have DK5 : Hid (Blk w5 r 107 (rkC s (Value.slice (some ⟨g', 0, none⟩) L4 c4) R.qv)) := hide (E4.out.fk.blk.same (hgr5.block r E4.out.fk.blk.lt (fun e => hne5 r e.symm rfl)))
  have G5 : Hid (Blk w5 g3 116 (rwC 5 n (.slice none 0 0) 0 t)) := hide (Blk.same E4.out.gb (hgr5.block g3 E4.out.gb.lt (fun e => E4.out.off e.symm)))
  have F5 : Hid (w5.ownsRow 0 135 2 (Value.slice (some ⟨g', 0, none⟩) L4 c4) (A2 ++ (t, xs) :: B2).length (filC ((A2 ++ (t, xs) :: B2)))) := hide (row_same E4.out.fk.row (fun k hk => by
    obtain ⟨cs, hc⟩ := row_lies E4.out.fk.row hk
    exact hgr5.block k hc.lt (fun e => hnf5 k hk e.symm)))
  have CH5 : Hid (Chs (R.own r) w w5) := hide (E4.out.chs.thenGrown hgr5 (fun k hk => .inl (.inr (.inr hk))))
  have LQ5 : Hid (∀ k, qv5.ownBlock = some k → R.own r k ∨ w.heap.size ≤ k) := hide (fun k hk => by
    rcases hat5 with e | e
    · exact .inl (.inr (.inr (by rw [e] at hk; exact hk)))
    · rw [e] at hk
      injection hk with hk
      have := E4.out.chs.size
      right
      omega)
  have ROW5 : Hid (w5.ownsRow 0 116 5 qv5 L5 (rwsC (R.qs ++ [(rRn n t, (Value.slice none 0 0))]))) := hide (by rw [rwsC_app, ← HL5.out, List.length_append]; exact hrow5)
  obtain ⟨qa5, qc5, hqe5⟩ := row_slice ROW5.out
  subst hqe5
  have k1 : w5.cell? ⟨r, 2, none⟩ = some R.qv := by rw [DK5.out.cell]; rfl
  have k2 : w5.frozen? ⟨r, 2, none⟩ = false := DK5.out.free 2
  have hH5 : w5.cell? ⟨r, 2, none⟩ = some R.qv ∧ w5.rangeAt g3 0 (rwC 5 n (.slice none 0 0) 0 t) := ⟨k1, G5.out.range 0 _ (by simp)⟩
  refine hK.out _ _ (fun _ => hH5) ?_
  have hHeld := hH5
  clear hK K
  clear hrow5 hgr5 hat5 hne5 hnf5
  simp only [Act.put]
  refine wpAnyU_ready (rs := [8]) (by kernel_rfl) (by simp) (AllReadyU.cons rfl (fun K hK => ?_) AllReadyU.nil)
  rw [if_pos (by rfl)]
  go_simp
  refine hK.out _ _ (fun _ => hH5) ?_
  have hHeld := hH5
  clear hK K
  clear hH5
  refine takeU 10 9 177 (.pointer (some ⟨r, 2, none⟩)) hHeld rfl rfl (by kernel_rfl) (by kernel_rfl) (by kernel_rfl) (by kernel_rfl) (by kernel_rfl) (by kernel_rfl) (fun _ _ _ h => h) (Or.inl ⟨by rfl, fun w _ => by go_simp⟩) ?_
  simp only [Act.put, List.setIfInBounds_toArray, List.set_cons_zero, List.set_cons_succ]
  refine wpAnyU_ready (rs := [10]) (by kernel_rfl) (by simp) (AllReadyU.cons rfl (fun K hK => ?_) AllReadyU.nil)
  rw [if_pos (by rfl)]
  go_simp
  refine hK.out _ _ (fun h => absurd h (by decide)) ?_
  clear hK K
  refine wpAnyU_done (by kernel_rfl) ?_ _
  refine NoPanic.normal ?_
  have B6 := But.setCell w5 r 2 (.slice qa5 L5 qc5)
  have FK6 : FkAt (w5.setCell ⟨r, 2, none⟩ (.slice qa5 L5 qc5)) r s (Value.slice (some ⟨g', 0, none⟩) L4 c4) (.slice qa5 L5 qc5) ((A2 ++ (t, xs) :: B2)) := ⟨DK5.out.set 2 _, row_same F5.out (fun k hk => B6.block k (fun e => by
    obtain ⟨cs, hc⟩ := row_lies F5.out hk
    exact hc.apart DK5.out (by decide) e))⟩
  have hres : RoR w (w5.setCell ⟨r, 2, none⟩ (.slice qa5 L5 qc5)) r s R (rs ++ [rRn n t]) (Value.slice none 0 0) := DsR.done HH.out HLR.out HV.out (by exact HFL.out) HLN.out FK6 (by rw [HL5.out]; exact row_same ROW5.out (fun k hk => B6.block k (fun e => by
    obtain ⟨cs, hc⟩ := row_lies ROW5.out hk
    exact hc.apart DK5.out (by decide) e))) (CH5.out.thenBut B6 (.inl (.inl rfl))) D10.out.lie LQ5.out rfl
  revert hres
  generalize w5.setCell ⟨r, 2, none⟩ (.slice qa5 L5 qc5) = w6
  intro hres
  have HRES := hide hres
  clear hres
  go_wp2
  go_end0
  exact ⟨rfl, HRES.out⟩
end

end Go.Proofs.YtlgcjdgcgnlcaaaGreatDoor

/-
  The document's disk: do whole, New, wrong, Create, All, Cut, Remove, Rename, Read.
-/
namespace Go.Proofs.YtlgcjdgcgnlcaaaGreatDoor
open Go.RowKit
set_option linter.unusedVariables false

theorem BV.nil {w : World} {v : Value} (h : BV w v []) : v = .slice none 0 0 := by
  rcases h with ⟨h, _⟩ | ⟨b, o, l, c, rfl, h0, hs, _⟩
  · exact h
  · have := hs.hlen
    simp at this
    omega
theorem doR_any (r s : Nat) (rs : List Rw) (R : Rm) (x : Rw) (v : Value) (w : World) (h : RkAt w r s rs R) (hx : Lraw s (play rs) x) (hv : BV w v x.b) (hwt : wt rs + x.b.length + 1 ≤ 1099511000000) :
    Calls Tryz.prog 63 #[.pointer (some ⟨r, 0, none⟩), .agg (rwC x.k x.n v x.s x.t).toArray] w fun e w' => e = .returned (.tuple #[]) ∧ RoR w w' r s R (rs ++ [x]) v := by
  obtain ⟨hl, hfit⟩ := hx
  rcases hl with ⟨n, rfl, hn, hf⟩ | ⟨n, b, xs, rfl, hn, hf, hb, hB⟩ | ⟨n, k, xs, rfl, hn, hf, h0, h1⟩ | ⟨n, xs, rfl, hn, hf⟩ | ⟨n, t, xs, rfl, hn, ht, hf, hnt⟩
  · have e := BV.nil hv
    subst e
    exact doR_cr r s rs R n w h hn (by simp [rCr] at hwt; omega) hf hv
  · have hxs : fl (play rs) n = xs := by simp [fl, hf]
    have h2 := hfit rfl
    change (fl (play rs) n).length % s + b.length ≤ s at h2
    rw [hxs] at h2
    exact doR_ap r s rs R n w h hn v b xs hf hb hB h2 hwt hv
  · have e := BV.nil hv
    subst e
    exact doR_cu r s rs R n w h hn k xs hf h0 h1 (by simp [rCu] at hwt; omega) hv
  · have e := BV.nil hv
    subst e
    exact doR_rm r s rs R n w h hn (by simp [rRm] at hwt; omega) xs hf hv
  · have e := BV.nil hv
    subst e
    cases hp : play rs t with
    | none => exact doR_rn0 r s rs R n t w h hn ht hnt (by simp [rRn] at hwt; omega) xs hf hv hp
    | some ys => exact doR_rn1 r s rs R n t w h hn ht hnt (by simp [rRn] at hwt; omega) xs hf hv ys hp

/-- What a call that writes leaves of the document's disk. -/
def RoP (w w' : World) (r s : Nat) (R : Rm) (rs' : List Rw) : Prop :=
  ∃ R', RkAt w' r s rs' R' ∧ Chs (R.own r) w w' ∧ (∀ k, R'.own r k → R.own r k ∨ w.heap.size ≤ k) ∧ (∀ k, R'.ro k → R.ro k ∨ w.heap.size ≤ k)
theorem RoP.below {w w' : World} {r s : Nat} {R : Rm} {rs : List Rw} (h : RkAt w r s rs R) (hb : Below w.heap.size w w') : RoP w w' r s R rs := ⟨R, h.below hb, Chs.of_below _ hb, fun k hk => .inl hk, fun k hk => .inl hk⟩
theorem RoR.op {w w1 w' : World} {r s : Nat} {R : Rm} {rs' : List Rw} {v : Value} (hb : Below w.heap.size w w1) (hv : ∀ k, v.ownBlock = some k → w.heap.size ≤ k) (h : RoR w1 w' r s R rs' v) : RoP w w' r s R rs' := by
  obtain ⟨R', h1, h2, h3, h4⟩ := h
  have hsz := hb.size
  exact ⟨R', h1, (Chs.of_below _ hb).after h2 (fun k hk => .inl hk), fun k hk => (h3 k hk).imp id (fun h => Nat.le_trans hsz h), fun k hk => (h4 k hk).imp id (hv k)⟩
theorem novb (k w : Nat) (h : (Value.slice none 0 0).ownBlock = some k) : w ≤ k := by cases h

section
variable {dst : Option Tmp} {ty : TypeId} {pos : String} {aft : Array Edge} {gd : Option (Nat × Bool)} {ops : Array Oper} {rest : List Oper} {a : Act} {w : World} {Q : Exit → Act → World → Prop}
theorem step_bRk {x : Operand} {k : Int} (hw : Region.wanted ⟨dst, .build 107 #[(0, x)], ty, pos, aft, gd⟩ (yielded ops a.tmps) = true) (hx : a.eval x = .int .i64 k)
    (h : wpList Tryz.prog ops Q rest (a.put dst (.agg (rkC k (.slice none 0 0) (.slice none 0 0)).toArray)) w) : wpList Tryz.prog ops Q (⟨dst, .build 107 #[(0, x)], ty, pos, aft, gd⟩ :: rest) a w :=
  step_run hw _ w (run_op (M := Instr.build 107 #[(0, .int .i64 k)]) (by simp [execOp, hx]) (by kernel_rfl)) h
end
def rm0 : Rm := ⟨.slice none 0 0, .slice none 0 0, [], []⟩
theorem RkAt.new {w : World} {g s : Nat} (h : Blk w g 107 (rkC s (.slice none 0 0) (.slice none 0 0))) (h1 : 1 ≤ s) (h2 : s ≤ 4096) : RkAt w g s [] rm0 :=
  ⟨h1, h2, ⟨h, World.ownsRow_nil _ _ _ _⟩, World.ownsRow_nil _ _ _ _, (fun x hx => by cases hx), rfl, FL.nil, trivial, Nat.le_refl _⟩
theorem rm0_own {g B : Nat} (hg : B ≤ g) : ∀ k, rm0.own g k → B ≤ k := fun k hk => by
  rcases hk with rfl | hk | hk
  · exact hg
  · cases hk
  · cases hk
theorem newR_ok (s : Nat) (w : World) (h1 : 1 ≤ s) (h2 : s ≤ 4096) : Calls Tryz.prog 25 #[.int .i64 (s : Int)] w fun e w' => ∃ g, e = .returned (.tuple #[.pointer (some ⟨g, 0, none⟩), .int .i64 0]) ∧ RkAt w' g s [] rm0 ∧ w.heap.size ≤ g ∧ Below w.heap.size w w' := by
  have h3 : ¬ (s : Int) < 1 := by omega
  have h4 : ¬ 4096 < (s : Int) := by omega
  go_enter Tryz.func25, Tryz.ntmps25
  go_wp2_with (first | (refine step_bRk rfl rfl ?_) | (refine step_box (cs := rkC s (.slice none 0 0) (.slice none 0 0)) rfl rfl ?_; intro w1 g hg hl hb))
  go_ret2
  exact ⟨g, rfl, RkAt.new hg h1 h2, hl, hb⟩

section
variable (r s : Nat) (rs : List Rw) (R : Rm) (w : World) (h : RkAt w r s rs R)
include h
theorem RkAt.few2 (hwt : wt rs ≤ 1099511000000) : R.l.length ≤ 1099511000000 := by have h1 := h.few; have h2 := len_wt rs; omega
set_option maxRecDepth 100000 in
theorem wrong_t (n : ByteArray) (hwt : wt rs ≤ 1099511000000) : Calls Tryz.prog 62 #[.pointer (some ⟨r, 0, none⟩), .string n, .bool true] w fun e w' => e = .returned (.int .i64 (fE rs n)) ∧ Below w.heap.size w w' := by
  have hfew := h.few2 r s rs R w hwt
  have HFD : Hid (∀ W : World, FkAt W r s R.fv R.qv R.l → Calls Tryz.prog 70 #[.pointer (some ⟨r, 0, none⟩), .string n] W fun e w' => e = .returned (.tuple #[.int .i64 (posF R.l n : Nat), .bool (play rs n).isSome]) ∧ Below W.heap.size W w') := hide (fun W hW => find_any r s R.fv R.qv R.l (play rs) n W hW h.fls hfew)
  have HK := hide h.fk
  clear h hfew hwt
  generalize posF R.l n = I at HFD
  by_cases hn : nmB n = true
  · cases hf : (play rs n).isSome with
    | true =>
      have e0 : fE rs n = 0 := by simp [fE, hn, hf]
      rw [e0]
      rw [hf] at HFD
      clear e0 hf
      go_enter Tryz.func62, Tryz.ntmps62
      go_wp2_with (first | (go_at_call 88; refine (nameR_any _ _).mono ?_; rintro e w ⟨rfl, rfl⟩) | (go_at_call 70; refine (HFD.out _ HK.out).mono ?_; rintro e w2 ⟨rfl, hb2⟩))
      go_ret
      exact ⟨rfl, hb2⟩
    | false =>
      have e0 : fE rs n = 121 := by simp [fE, hn, hf]
      rw [e0]
      rw [hf] at HFD
      clear e0 hf
      go_enter Tryz.func62, Tryz.ntmps62
      go_wp2_with (first | (go_at_call 88; refine (nameR_any _ _).mono ?_; rintro e w ⟨rfl, rfl⟩) | (go_at_call 70; refine (HFD.out _ HK.out).mono ?_; rintro e w2 ⟨rfl, hb2⟩))
      go_ret
      exact ⟨rfl, hb2⟩
  · have hn' : nmB n = false := by simpa using hn
    have e0 : fE rs n = 2 := by simp [fE, hn']
    rw [e0]
    clear e0 hn
    go_enter Tryz.func62, Tryz.ntmps62
    go_wp2_with (first | (go_at_call 88; refine (nameR_any _ _).mono ?_; rintro e w ⟨rfl, rfl⟩))
    go_ret
    exact ⟨rfl, Below.refl _ _⟩
set_option maxRecDepth 100000 in
theorem wrong_f (n : ByteArray) (hwt : wt rs ≤ 1099511000000) : Calls Tryz.prog 62 #[.pointer (some ⟨r, 0, none⟩), .string n, .bool false] w fun e w' => e = .returned (.int .i64 (crE rs n)) ∧ Below w.heap.size w w' := by
  have hfew := h.few2 r s rs R w hwt
  have HFD : Hid (∀ W : World, FkAt W r s R.fv R.qv R.l → Calls Tryz.prog 70 #[.pointer (some ⟨r, 0, none⟩), .string n] W fun e w' => e = .returned (.tuple #[.int .i64 (posF R.l n : Nat), .bool (play rs n).isSome]) ∧ Below W.heap.size W w') := hide (fun W hW => find_any r s R.fv R.qv R.l (play rs) n W hW h.fls hfew)
  have HK := hide h.fk
  clear h hfew hwt
  generalize posF R.l n = I at HFD
  by_cases hn : nmB n = true
  · cases hf : (play rs n).isSome with
    | true =>
      have e0 : crE rs n = 120 := by simp [crE, hn, hf]
      rw [e0]
      rw [hf] at HFD
      clear e0 hf
      go_enter Tryz.func62, Tryz.ntmps62
      go_wp2_with (first | (go_at_call 88; refine (nameR_any _ _).mono ?_; rintro e w ⟨rfl, rfl⟩) | (go_at_call 70; refine (HFD.out _ HK.out).mono ?_; rintro e w2 ⟨rfl, hb2⟩))
      go_ret
      exact ⟨rfl, hb2⟩
    | false =>
      have e0 : crE rs n = 0 := by simp [crE, hn, hf]
      rw [e0]
      rw [hf] at HFD
      clear e0 hf
      go_enter Tryz.func62, Tryz.ntmps62
      go_wp2_with (first | (go_at_call 88; refine (nameR_any _ _).mono ?_; rintro e w ⟨rfl, rfl⟩) | (go_at_call 70; refine (HFD.out _ HK.out).mono ?_; rintro e w2 ⟨rfl, hb2⟩))
      go_ret
      exact ⟨rfl, hb2⟩
  · have hn' : nmB n = false := by simpa using hn
    have e0 : crE rs n = 2 := by simp [crE, hn']
    rw [e0]
    clear e0 hn
    go_enter Tryz.func62, Tryz.ntmps62
    go_wp2_with (first | (go_at_call 88; refine (nameR_any _ _).mono ?_; rintro e w ⟨rfl, rfl⟩))
    go_ret
    exact ⟨rfl, Below.refl _ _⟩
set_option maxRecDepth 100000 in
theorem all_any (n : ByteArray) (hwt : wt rs ≤ 1099511000000) : Calls Tryz.prog 37 #[.pointer (some ⟨r, 0, none⟩), .string n] w fun e w' => e = .returned (.tuple #[.string (str (fl (play rs) n)), .bool (play rs n).isSome]) ∧ Below w.heap.size w w' := by
  have hfew := h.few2 r s rs R w hwt
  have HFD : Hid (∀ W : World, FkAt W r s R.fv R.qv R.l → Calls Tryz.prog 70 #[.pointer (some ⟨r, 0, none⟩), .string n] W fun e w' => e = .returned (.tuple #[.int .i64 (posF R.l n : Nat), .bool (play rs n).isSome]) ∧ Below W.heap.size W w') := hide (fun W hW => find_any r s R.fv R.qv R.l (play rs) n W hW h.fls hfew)
  have HK := hide h.fk
  obtain ⟨A, B, hAB, hA, hlt, hB⟩ := h.fls.split n
  cases hf : play rs n with
  | none =>
    have e1 : fl (play rs) n = [] := by simp [fl, hf]
    rw [e1]
    rw [hf] at HFD
    clear h hfew hwt hAB hA hlt hB e1 hf
    generalize posF R.l n = I at HFD
    go_enter Tryz.func37, Tryz.ntmps37
    go_wp2_with (go_at_call 70; refine (HFD.out _ HK.out).mono ?_; rintro e w2 ⟨rfl, hb2⟩)
    go_ret2
    exact ⟨rfl, hb2⟩
  | some xs =>
    obtain ⟨B', rfl⟩ : ∃ B', B = (n, xs) :: B' := by
      rcases hB with ⟨h1, _⟩ | ⟨ys, B', h1, h2, _⟩
      · rw [hf] at h1; cases h1
      · rw [hf] at h1
        injection h1 with h1
        subst h1
        exact ⟨B', h2⟩
    have e1 : fl (play rs) n = xs := by simp [fl, hf]
    rw [e1]
    rw [hf] at HFD
    have hx : R.l[posF R.l n]? = some (n, xs) := by rw [← hA, hAB]; simp
    have hlt2 : posF R.l n < R.l.length := (List.getElem?_eq_some_iff.1 hx).1
    obtain ⟨g, cap, cs, hfv, hg, _, _, _, _, hc1⟩ := h.fk.file hx
    have HG : Hid (Blk w g 135 cs) := hide hg
    generalize hI : posF R.l n = I at HFD hx hlt2 hc1
    have hix := vw_at rFi g R.l.length cap I hlt2
    have HC1 := hide hc1
    have HFV := hide hfv
    generalize hL : R.l.length = L at hfv hix HFV
    clear h hfew hwt hAB hA hlt hB e1 hf hx hlt2 hg hc1 hI hL
    go_enter Tryz.func37, Tryz.ntmps37
    go_wp2_with (go_at_call 70; refine (HFD.out _ HK.out).mono ?_; rintro e w2 ⟨rfl, hb2⟩; have c1 : w2.cell? ⟨r, 1, none⟩ = some (.slice (some ⟨g, 0, none⟩) L cap) := (by rw [(HK.out.blk.on hb2).cell, ← HFV.out]; rfl); have c2 : w2.cell? ⟨g, I * 2 + 1, none⟩ = some (.string (str xs)) := (by rw [(HG.out.on hb2).cell]; exact HC1.out))
    go_ret2
    exact ⟨rfl, hb2⟩
end

end Go.Proofs.YtlgcjdgcgnlcaaaGreatDoor

/-
  What a loss of power leaves of a level that was filled, and what Trim makes of it. No program here.
-/
namespace Go.Proofs.YtlgcjdgcgnlcaaaGreatDoor
open Go.RowKit
set_option linter.unusedVariables false
set_option linter.unusedSimpArgs false

section
variable {F : ByteArray → Option (List Int)} {h : Nat} {ys : List (List Int)}
end

/-! ### Trim -/
/-- The tiles that Trim takes away, the greatest index first. -/
structure TrI (F : ByteArray → Option (List Int)) (h l n : Nat) (is : List Nat) : Prop where
  desc : is.Pairwise fun a b => b < a
  mem : ∀ i, i ∈ is ↔ (tFB h l i = true ∧ (F (sN h l i)).isSome = true ∧ n ≤ i * 2 ^ h)
theorem desc_ext : ∀ (a b : List Nat), (a.Pairwise fun x y => y < x) → (b.Pairwise fun x y => y < x) → (∀ i, i ∈ a ↔ i ∈ b) → a = b
  | [], [], _, _, _ => rfl
  | [], y :: t, _, _, hm => by have := (hm y).2 (by simp); simp at this
  | x :: t, [], _, _, hm => by have := (hm x).1 (by simp); simp at this
  | x :: t, y :: u, ha, hb, hm => by
    obtain ⟨a1, a2⟩ := List.pairwise_cons.1 ha
    obtain ⟨b1, b2⟩ := List.pairwise_cons.1 hb
    have e : x = y := by
      rcases List.mem_cons.1 ((hm x).1 (by simp)) with e | e
      · exact e
      · rcases List.mem_cons.1 ((hm y).2 (by simp)) with e2 | e2
        · exact e2.symm
        · have h1 := b1 x e
          have h2 := a1 y e2
          omega
    subst e
    congr 1
    refine desc_ext t u a2 b2 (fun i => ⟨fun hi => ?_, fun hi => ?_⟩)
    · rcases List.mem_cons.1 ((hm i).1 (List.mem_cons_of_mem _ hi)) with e | e
      · subst e; have := a1 i hi; omega
      · exact e
    · rcases List.mem_cons.1 ((hm i).2 (List.mem_cons_of_mem _ hi)) with e | e
      · subst e; have := b1 i hi; omega
      · exact e
theorem TrI.uniq {F : ByteArray → Option (List Int)} {h l n : Nat} {is js : List Nat} (a : TrI F h l n is) (b : TrI F h l n js) : is = js :=
  desc_ext is js a.desc b.desc (fun i => (a.mem i).trans (b.mem i).symm)
/-- The raw writes ahead of the cut. -/
def trR (h l : Nat) (rs : List Rw) (is : List Nat) : List Rw := rs ++ is.map fun i => rRm (sN h l i)
/-- The raw writes of a Trim to n. -/
def trS (h l n : Nat) (rs : List Rw) (is : List Nat) : List Rw := if n % 2 ^ h = 0 then trR h l rs is else cuS (trR h l rs is) (sN h l (n / 2 ^ h)) (((n % 2 ^ h) * 32 : Nat) : Int)
theorem trR_snoc (h l : Nat) (rs : List Rw) (is : List Nat) (i : Nat) : trR h l rs (is ++ [i]) = trR h l rs is ++ [rRm (sN h l i)] := by simp [trR]
theorem trR_nil (h l : Nat) (rs : List Rw) : trR h l rs [] = rs := by simp [trR]
theorem rm_play (h l : Nat) : ∀ (is : List Nat) (f : ByteArray → Option (List Int)) (n : ByteArray), (n ∈ is.map (sN h l) → ((is.map fun i => rRm (sN h l i)).foldl doR f) n = none) ∧ (n ∉ is.map (sN h l) → ((is.map fun i => rRm (sN h l i)).foldl doR f) n = f n)
  | [], f, n => ⟨fun h => by simp at h, fun _ => rfl⟩
  | i :: t, f, n => by
    obtain ⟨h1, h2⟩ := rm_play h l t (upd f (sN h l i) none) n
    simp only [List.map_cons, List.foldl_cons, do_rm]
    by_cases hm : n ∈ t.map (sN h l)
    · exact ⟨fun _ => h1 hm, fun hn => absurd (List.mem_cons_of_mem _ hm) hn⟩
    · by_cases h3 : n = sN h l i
      · exact ⟨fun _ => by rw [h2 hm, h3, upd_same], fun hn => absurd (by rw [h3]; simp) hn⟩
      · exact ⟨fun hh => absurd hh (fun hh => by rcases List.mem_cons.1 hh with e | e; exact h3 e; exact hm e), fun _ => by rw [h2 hm, upd_ne _ _ h3]⟩
theorem trR_play (h l : Nat) (rs : List Rw) (is : List Nat) (n : ByteArray) : (n ∈ is.map (sN h l) → play (trR h l rs is) n = none) ∧ (n ∉ is.map (sN h l) → play (trR h l rs is) n = play rs n) := by
  unfold trR
  rw [play_app]
  exact rm_play h l is _ n
end Go.Proofs.YtlgcjdgcgnlcaaaGreatDoor

/-
  The document's digests: those of a level, and how many bytes are torn behind them.
-/
namespace Go.Proofs.YtlgcjdgcgnlcaaaGreatDoor
open Go.RowKit
set_option linter.unusedVariables false
set_option linter.unusedSimpArgs false
set_option maxRecDepth 100000

/-- A text's bytes. -/
def sb (s : ByteArray) : List Int := s.data.toList.map fun b => (b.toNat : Int)
theorem sb_length (s : ByteArray) : (sb s).length = s.size := by
  rw [sb, List.length_map, Array.length_toList]; rfl
theorem sb_cells (s : ByteArray) : Lib.strCells s = u8s (sb s) := by
  simp [Lib.strCells, u8s, sb]

theorem step_appendS {dst : Option Tmp} {s x : Operand} {ty : TypeId} {pos : String} {aft : Array Edge} {ops : Array Oper} {rest : List Oper} {a : Act} {w : World} {Q : Exit → Act → World → Prop}
    {B : Nat} {v : Value} {xs : List Int} {t : ByteArray}
    (hs : a.eval s = v) (hx : a.eval x = .string t) (hown : Own w B v xs) (hlen : xs.length + t.size ≤ 140737488355328) (hB : B ≤ w.heap.size)
    (h : ∀ v' w', Own w' B v' (xs ++ sb t) → w.grownBy w' v.ownBlock → (v' = .slice none 0 0 → v = .slice none 0 0) → wpList Tryz.prog ops Q rest (a.put dst v') w') :
    wpList Tryz.prog ops Q (⟨dst, .call { callee := .builtin .append, args := #[s, x], argTypes := #[44, 9] }, ty, pos, aft, none⟩ :: rest) a w := by
  obtain ⟨i0, hi, hz0, hz1, hz2⟩ := info_parts infoB
  refine Lib.wpList_append_own_string _ rfl s x 44 9 rfl B 5 i0 undBs undS hi hz0 hz1 hz2 v _ _ hs hown t hx (by unfold maxLen; omega) hlen hB ?_
  intro v' w' h1 h2 h3
  have hl : (xs ++ sb t).length = xs.length + t.size := by rw [List.length_append, sb_length]
  exact h v' w' (by unfold Own; rw [hl, u8s_app, ← sb_cells]; exact h1) h2 (fun e => (h3.1 e).1)

theorem sb_str {xs : List Int} (h : isB xs) : sb (str xs) = xs := by
  unfold sb str
  rw [strOfNums_data, List.map_map]
  conv => rhs; rw [← List.map_id xs]
  apply List.map_congr_left
  intro z hz
  have := h z hz
  simp only [Function.comp, UInt8.toNat_ofNat', id]
  omega
/-- A level's bytes: of its first files. -/
def LB (F : ByteArray → Option (List Int)) (h l k : Nat) : List Int := (List.range k).flatMap fun i => (fl F (sN h l i)).take (32 * 2 ^ h)
/-- A level's bytes: of n digests. -/
def LT (F : ByteArray → Option (List Int)) (h l n : Nat) : List Int := LB F h l (n / 2 ^ h) ++ (fl F (sN h l (n / 2 ^ h))).take (32 * (n % 2 ^ h))
/-- How many bytes are torn behind them. -/
def LTn (F : ByteArray → Option (List Int)) (h l n : Nat) : Nat := (fl F (sN h l (n / 2 ^ h))).length - 32 * (n % 2 ^ h)
theorem LB_succ (F : ByteArray → Option (List Int)) (h l k : Nat) : LB F h l (k + 1) = LB F h l k ++ (fl F (sN h l k)).take (32 * 2 ^ h) := by
  simp [LB, List.range_succ]
theorem LB_len {F : ByteArray → Option (List Int)} {h l : Nat} : ∀ k, (∀ i, i < k → 32 * 2 ^ h ≤ (fl F (sN h l i)).length) → (LB F h l k).length = 32 * (2 ^ h * k)
  | 0, _ => by simp [LB]
  | k + 1, hk => by
    have h1 := LB_len k (fun i hi => hk i (by omega))
    have h2 := hk k (by omega)
    rw [LB_succ, List.length_append, h1, List.length_take, Nat.mul_add, Nat.mul_one]
    omega
theorem LT_len {F : ByteArray → Option (List Int)} {h l n : Nat} (k : Cn F h l n) : (LT F h l n).length = 32 * n := by
  have e := Nat.div_add_mod n (2 ^ h)
  have h1 := LB_len (n / 2 ^ h) (fun i hi => k.full hi)
  have h2 := k.part
  unfold LT
  rw [List.length_append, h1, List.length_take]
  omega
theorem LB_at {F : ByteArray → Option (List Int)} {h l : Nat} (k : Nat) (hk : ∀ i, i < k → 32 * 2 ^ h ≤ (fl F (sN h l i)).length) (rest : List Int) (i m : Nat) (hi : i < k) (hm : m < 2 ^ h) :
    ((LB F h l k ++ rest).drop (32 * (2 ^ h * i + m))).take 32 = ((fl F (sN h l i)).drop (m * 32)).take 32 := by
  have e : LB F h l k = LB F h l i ++ ((fl F (sN h l i)).take (32 * 2 ^ h) ++ (List.range' (i + 1) (k - (i + 1))).flatMap fun i => (fl F (sN h l i)).take (32 * 2 ^ h)) := by
    have e1 : List.range k = List.range i ++ i :: List.range' (i + 1) (k - (i + 1)) := by
      rw [List.range_eq_range', List.range_eq_range', ← List.range'_succ, show k = i + (k - i) by omega]
      rw [show i + (k - i) - (i + 1) + 1 = k - i by omega]
      simpa using (List.range'_append_1 (s := 0) (m := i) (n := k - i)).symm
    unfold LB
    rw [e1, List.flatMap_append, List.flatMap_cons]
  have h1 := LB_len (F := F) (h := h) (l := l) i (fun j hj => hk j (by omega))
  have h2 := hk i hi
  rw [e, List.append_assoc, List.drop_append, List.drop_of_length_le (by rw [h1]; omega), List.nil_append, h1]
  rw [show 32 * (2 ^ h * i + m) - 32 * (2 ^ h * i) = m * 32 by omega, List.append_assoc, List.drop_append_of_le_length (by rw [List.length_take]; omega), List.drop_take, List.take_append_of_le_length (by rw [List.length_take, List.length_drop]; omega), List.take_take]
  congr 1
  omega
/-- The digest j out of a level's bytes. -/
theorem LT_dg {F : ByteArray → Option (List Int)} {h l n : Nat} (k : Cn F h l n) {j : Nat} (hj : j < n) : ((LT F h l n).drop (32 * j)).take 32 = Go.Proofs.YtlgcjdgcgnlcaaaGreatDoor.dg F h l j := by
  have hp := Nat.two_pow_pos h
  have e := Nat.div_add_mod n (2 ^ h)
  have e2 := Nat.div_add_mod j (2 ^ h)
  have m2 := Nat.mod_lt j hp
  unfold Go.Proofs.YtlgcjdgcgnlcaaaGreatDoor.dg LT
  by_cases hq : j / 2 ^ h < n / 2 ^ h
  · have := LB_at (F := F) (h := h) (l := l) (n / 2 ^ h) (fun i hi => k.full hi) ((fl F (sN h l (n / 2 ^ h))).take (32 * (n % 2 ^ h))) (j / 2 ^ h) (j % 2 ^ h) hq m2
    rw [e2] at this
    exact this
  · have hqe : j / 2 ^ h = n / 2 ^ h := by
      have := Nat.div_le_div_right (c := 2 ^ h) (Nat.le_of_lt hj)
      omega
    have h1 := LB_len (n / 2 ^ h) (fun i hi => k.full hi)
    rw [hqe] at e2 ⊢
    have h2 := k.part
    rw [List.drop_append, List.drop_of_length_le (by rw [h1]; omega), List.nil_append, h1, show 32 * j - 32 * (2 ^ h * (n / 2 ^ h)) = j % 2 ^ h * 32 by omega, List.drop_take, List.take_take]
    congr 1
    omega
set_option maxHeartbeats 2000000 in
theorem digestsL_any (r s : Nat) (rs : List Rw) (R : Rm) (w : World) (h : RkAt w r s rs R) (H L n : Nat) (hh : isH H) (hL : L ≤ 48) (hc : Cn (play rs) H L n) (hwt : wt rs ≤ 1099511000000) :
    Calls Tryz.prog 31 #[.pointer (some ⟨r, 0, none⟩), .int .i64 (H : Int), .int .i64 (L : Int)] w fun e w' => ∃ v, e = .returned (.tuple #[v, .int .i64 (LTn (play rs) H L n : Int)]) ∧ Own w' w.heap.size v (LT (play rs) H L n) ∧ Below w.heap.size w w' := by
  have hF := Nmd.play h.val
  have hnw := hc.wt h.val
  have HR := hide h
  have HVB : Hid (∀ m, isB (fl (play rs) m)) := hide (fun m => by
    cases e : play rs m with
    | none => rw [fl_none e]; intro y hy; cases hy
    | some xs => rw [show fl (play rs) m = xs by simp [fl, e]]; exact h.isb e)
  have HFB : Hid (∀ m, (fl (play rs) m).length ≤ 1099511000000) := hide (fun m => Nat.le_trans (play_wt rs m) hwt)
  have hp := hh.pow
  have hdm := Nat.div_add_mod n (2 ^ H)
  have hml := Nat.mod_lt n (Nat.two_pow_pos H)
  have hpt := hc.part
  have hnd := hc.2
  unfold hasD at hnd
  simp only [decide_eq_false_iff_not] at hnd
  obtain ⟨P, HP⟩ : ∃ P, Hid (2 ^ H = P) := ⟨_, hide rfl⟩
  obtain ⟨Q, HQ⟩ : ∃ Q, Hid (n / 2 ^ H = Q) := ⟨_, hide rfl⟩
  obtain ⟨M, HM⟩ : ∃ M, Hid (n % 2 ^ H = M) := ⟨_, hide rfl⟩
  obtain ⟨F, HFF⟩ : ∃ F, Hid (32 * P = F) := ⟨_, hide rfl⟩
  have HTILE : Hid (∀ i, i < Q → tFB H L i = true) := hide (fun i hi => hc.tiles hF (by rw [HQ.out]; exact hi))
  have HFULL : Hid (∀ i, i < Q → F ≤ (fl (play rs) (sN H L i)).length) := hide (fun i hi => by
    have := hc.full (i := i) (by rw [HQ.out]; exact hi)
    rw [HP.out, HFF.out] at this
    exact this)
  have HLB : Hid (∀ i, i ≤ Q → (LB (play rs) H L i).length ≤ 1099511000000) := hide (fun i hi => by
    have h1 := LB_len (F := play rs) (h := H) (l := L) i (fun j hj => hc.full (by rw [HQ.out]; omega))
    have h2 : 2 ^ H * i ≤ 2 ^ H * (n / 2 ^ H) := Nat.mul_le_mul_left _ (by rw [HQ.out]; exact hi)
    omega)
  have HNO : Hid (tFB H L Q = false → play rs (sN H L Q) = none) := hide (fun hb => hF _ (sN_no hb))
  have HSU : Hid (∀ i, LB (play rs) H L (i + 1) = LB (play rs) H L i ++ (fl (play rs) (sN H L i)).take F) := hide (fun i => by rw [← HFF.out, ← HP.out]; exact LB_succ _ _ _ _)
  have e1 : LT (play rs) H L n = LB (play rs) H L Q ++ (fl (play rs) (sN H L Q)).take (32 * M) := by unfold LT; rw [HQ.out, HM.out]
  have e2 : LTn (play rs) H L n = (fl (play rs) (sN H L Q)).length - 32 * M := by unfold LTn; rw [HQ.out, HM.out]
  rw [e1, e2]
  rw [HQ.out, HM.out] at hpt
  rw [HM.out, HQ.out] at hnd
  rw [HM.out, HP.out] at hml
  have hqn : Q ≤ 1099511000000 := by rw [← HQ.out]; have := Nat.div_le_self n (2 ^ H); omega
  have HPT := hide (And.intro hpt hnd)
  have HFU := hide (fun W : World => full_any H P W hh HP.out)
  have HNM : Hid (∀ (W : World) (i : Nat), Calls Tryz.prog 35 #[.int .i64 (H : Int), .int .i64 (L : Int), .int .i64 (i : Int)] W fun r w' => r = .returned (.tuple #[.string (sN H L i), .int .i64 (if tFB H L i = true then 0 else 2)]) ∧ Below W.heap.size W w') := hide (fun W i => by
    have := snameR_any (H : Int) (L : Int) (i : Int) W
    rw [smP_nat] at this
    unfold smE at this
    rw [smB_nat] at this
    exact this)
  have HAL : Hid (∀ (W : World) (m : ByteArray), RkAt W r s rs R → Calls Tryz.prog 37 #[.pointer (some ⟨r, 0, none⟩), .string m] W fun e w' => e = .returned (.tuple #[.string (str (fl (play rs) m)), .bool (play rs m).isSome]) ∧ Below W.heap.size W w') := hide (fun W m hW => all_any r s rs R W hW m hwt)
  have hmul : 32 * (P : Int) = (F : Int) := by rw [← HFF.out]; omega
  have hF8 : F ≤ 8192 := by rw [← HFF.out, ← HP.out]; omega
  have hFp : 32 * M + 32 ≤ F := by rw [← HFF.out]; omega
  clear h hc hwt hh hp hdm hml hpt hnd hF hnw e1 e2
  go_enter Tryz.func31, Tryz.ntmps31
  go_wp2_with fail
  refine (HFU.out _).mono ?_
  rintro e w ⟨rfl, rfl⟩
  go_wp2_with fail
  clear HFU
  go_loopw [8, 10] (fun o p wr => ∃ i : Nat, i ≤ Q ∧ p = .int .i64 (i : Int) ∧ Hid (Own wr w.heap.size o (LB (play rs) H L i)) ∧ Hid (Below w.heap.size w wr)) (fun _ p _ => Q - (intOf p).toNat)
  case atStart => exact ⟨0, Nat.zero_le _, rfl, hide (World.ownsRow_nil _ _ _ _), hide (Below.refl _ _)⟩
  case round =>
    obtain ⟨i, hi, rfl, HO, HB⟩ := hrel
    have hi9 : i ≤ 1099511000000 := by omega
    have HN := hide (HNM.out wr i)
    by_cases hlt : i < Q
    · have ht := HTILE.out i hlt
      rw [ht, if_pos rfl] at HN
      obtain ⟨nm, HNN⟩ : ∃ nm, Hid (sN H L i = nm) := ⟨_, hide rfl⟩
      have hfu := HFULL.out i hlt
      have HS2 := hide (HSU.out i)
      rw [HNN.out] at HN hfu HS2
      obtain ⟨xs, HX⟩ : ∃ xs, Hid (fl (play rs) nm = xs) := ⟨_, hide rfl⟩
      have hsome : (play rs nm).isSome = true := by
        cases e : play rs nm with
        | some _ => rfl
        | none => rw [fl_none e] at hfu; simp at hfu; omega
      have hxb := HVB.out nm
      have hxl := HFB.out nm
      have HLI := hide (HLB.out i hi)
      rw [HX.out] at hfu HS2 hxb hxl
      have HAI : Hid (∀ W : World, RkAt W r s rs R → Calls Tryz.prog 37 #[.pointer (some ⟨r, 0, none⟩), .string nm] W fun e w' => e = .returned (.tuple #[.string (str xs), .bool true]) ∧ Below W.heap.size W w') := hide (fun W hW => by
        have := HAL.out W nm hW
        rw [HX.out, hsome] at this
        exact this)
      have HCUT : Hid (∀ z : World, (Instr.slice 9 (.string (str xs)) none (some (.int .i64 (F : Int))) none).run Tryz.prog z = .ok (.string (str (xs.take F))) z) := hide (fun z => cut_str xs (F : Int) (by omega) (by omega) z)
      have hsz : (str xs).size = xs.length := str_size xs
      have HSB : Hid (sb (str (xs.take F)) = xs.take F) := hide (sb_str (fun y hy => hxb y (List.mem_of_mem_take hy)))
      have HSZ : Hid ((str (xs.take F)).size ≤ 8192) := hide (by rw [str_size, List.length_take]; omega)
      generalize hl : xs.length = l at *
      have hge : ¬ (l : Int) < (F : Int) := by omega
      have hge2 : (F : Int) ≤ (l : Int) := by omega
      clear HX hsome ht hxb hl
      generalize str (xs.take F) = Y at *
      generalize str xs = X at *
      have hcut := HCUT.out
      go_wp2_with fail
      refine HN.out.mono ?_
      rintro e w2 ⟨rfl, hb2⟩
      have HB2 := hide (on_below HB.out hb2)
      have HO2 := hide (HO.out.below hb2)
      clear hb2 HN
      go_wp2_with fail
      refine (HAI.out _ (HR.out.below HB2.out)).mono ?_
      rintro e w3 ⟨rfl, hb3⟩
      have HB3 := hide (on_below HB2.out hb3)
      have HO3 := hide (HO2.out.below hb3)
      clear hb3 HAI HO HO2 HB HB2
      go_wp2_with (refine step_appendS rfl rfl HO3.out (by have h1 := HLI.out; have h2 := HSZ.out; omega) HB3.out.size ?_)
      intro v4 w4 ho4 hg4 _
      rw [HSB.out, ← HS2.out] at ho4
      have HO4 := hide ho4
      have HB4 := hide (HB3.out.grown hg4 HB3.out.size (fun k hk => HO3.out.lt k hk))
      clear ho4 hg4 HO3 HB3
      go_wp2
      go_roundw
      case rel => exact ⟨i + 1, by omega, by go_num, HO4, HB4⟩
      case measure => simp only [intOf]; omega
    · obtain rfl : i = Q := by omega
      obtain ⟨nm, HNN⟩ : ∃ nm, Hid (sN H L i = nm) := ⟨_, hide rfl⟩
      have hpt := HPT.out
      have hno := HNO.out
      have hxb := HVB.out (sN H L i)
      have hxl := HFB.out (sN H L i)
      have HLI := hide (HLB.out i hi)
      have HAI := hide (fun (W : World) (hW : RkAt W r s rs R) => HAL.out W (sN H L i) hW)
      cases hc : play rs (sN H L i) with
      | none =>
        have e3 : fl (play rs) (sN H L i) = [] := fl_none hc
        rw [e3] at hpt
        have HE3 := hide e3
        rw [e3, hc] at HAI
        have hM0 : M = 0 := by simp at hpt; omega
        subst hM0
        rw [HNN.out] at HN HAI
        obtain ⟨er, HER⟩ : ∃ er : Int, Hid ((if tFB H L i = true then (0 : Int) else 2) = er) := ⟨_, hide rfl⟩
        rw [HER.out] at HN
        clear hxb hxl hpt hno hc e3 HER HPT HNO
        by_cases h0 : er = 0
        · subst h0
          go_wp2_with fail
          refine HN.out.mono ?_
          rintro e w2 ⟨rfl, hb2⟩
          have HB2 := hide (on_below HB.out hb2)
          have HO2 := hide (HO.out.below hb2)
          clear hb2 HN
          go_wp2_with fail
          refine (HAI.out _ (HR.out.below HB2.out)).mono ?_
          rintro e w3 ⟨rfl, hb3⟩
          have HB3 := hide (on_below HB2.out hb3)
          have HO3 := hide (HO2.out.below hb3)
          clear hb3
          go_wp2
          go_ret2
          exact ⟨_, by rw [HE3.out]; rfl, by rw [HE3.out]; simpa using HO3.out, HB3.out⟩
        · go_wp2_with fail
          refine HN.out.mono ?_
          rintro e w2 ⟨rfl, hb2⟩
          have HB2 := hide (on_below HB.out hb2)
          have HO2 := hide (HO.out.below hb2)
          clear hb2 HN
          go_wp2_with fail
          refine (HAI.out _ (HR.out.below HB2.out)).mono ?_
          rintro e w3 ⟨rfl, hb3⟩
          have HB3 := hide (on_below HB2.out hb3)
          have HO3 := hide (HO2.out.below hb3)
          clear hb3
          go_wp2
          go_ret2
          exact ⟨_, by rw [HE3.out]; rfl, by rw [HE3.out]; simpa using HO3.out, HB3.out⟩
      | some xs =>
        have e3 : fl (play rs) (sN H L i) = xs := by simp [fl, hc]
        have ht : tFB H L i = true := by
          cases hb : tFB H L i with
          | true => rfl
          | false => have := hno hb; rw [hc] at this; cases this
        rw [e3] at hpt hxb hxl
        have HE3 := hide e3
        rw [e3, hc] at HAI
        rw [ht, if_pos rfl] at HN
        rw [HNN.out] at HN HAI
        clear e3 ht hno HPT HNO hc
        have hdv : ((xs.length : Int)).tdiv 32 = (M : Int) := by rw [Int.tdiv_eq_ediv_of_nonneg (by omega)]; omega
        have hdv2 : ((xs.length : Int)) / 32 = (M : Int) := by omega
        obtain ⟨K, HKK⟩ : ∃ K, Hid (32 * M = K) := ⟨_, hide rfl⟩
        have hmk : (M : Int) * 32 = (K : Int) := by rw [← HKK.out]; omega
        rw [HKK.out] at hpt
        have HCUT : Hid (∀ z : World, (Instr.slice 9 (.string (str xs)) none (some (.int .i64 (K : Int))) none).run Tryz.prog z = .ok (.string (str (xs.take K))) z) := hide (fun z => cut_str xs (K : Int) (by omega) (by omega) z)
        have hsz : (str xs).size = xs.length := str_size xs
        have HSB : Hid (sb (str (xs.take K)) = xs.take K) := hide (sb_str (fun y hy => hxb y (List.mem_of_mem_take hy)))
        have HSZ : Hid ((str (xs.take K)).size ≤ 8192) := hide (by rw [str_size, List.length_take]; omega)
        have hKF : K ≤ 8192 := by omega
        have hlF : xs.length < F := by omega
        obtain ⟨l, hl⟩ : ∃ l, xs.length = l := ⟨_, rfl⟩
        rw [hl] at hpt hxl hdv hdv2 hsz hlF
        have HLL := hide hl
        have hsub : (l : Int) - (K : Int) = ((l - K : Nat) : Int) := by omega
        have hlt2 : (l : Int) < (F : Int) := by omega
        have hnl : ¬ (F : Int) ≤ (l : Int) := by omega
        obtain ⟨tn, HTN⟩ : ∃ tn, Hid (l - K = tn) := ⟨_, hide rfl⟩
        rw [HTN.out] at hsub
        have htn : tn ≤ 8192 := by rw [← HTN.out]; omega
        clear hxb hl hpt
        generalize str (xs.take K) = Y at *
        generalize str xs = X at *
        have hcut := HCUT.out
        go_wp2_with fail
        refine HN.out.mono ?_
        rintro e w2 ⟨rfl, hb2⟩
        have HB2 := hide (on_below HB.out hb2)
        have HO2 := hide (HO.out.below hb2)
        clear hb2 HN
        go_wp2_with fail
        refine (HAI.out _ (HR.out.below HB2.out)).mono ?_
        rintro e w3 ⟨rfl, hb3⟩
        have HB3 := hide (on_below HB2.out hb3)
        have HO3 := hide (HO2.out.below hb3)
        clear hb3 HAI HO HO2 HB HB2
        go_wp2_with (refine step_appendS rfl rfl HO3.out (by have h1 := HLI.out; have h2 := HSZ.out; omega) HB3.out.size ?_)
        intro v4 w4 ho4 hg4 _
        rw [HSB.out] at ho4
        have HO4 := hide ho4
        have HB4 := hide (HB3.out.grown hg4 HB3.out.size (fun k hk => HO3.out.lt k hk))
        clear ho4 hg4 HO3 HB3
        go_wp2
        go_ret2
        exact ⟨_, by rw [HE3.out, HKK.out, HLL.out, HTN.out]; rfl, by rw [HE3.out, HKK.out]; exact HO4.out, HB4.out⟩

end Go.Proofs.YtlgcjdgcgnlcaaaGreatDoor

/-
  The document's digests out of bytes (out of Xm and Tj, with wider bounds).
-/
namespace Go.Proofs.YtlgcjdgcgnlcaaaGreatDoor
open Go.RowKit
set_option linter.unusedVariables false

theorem zD0 : Zeroed 31 (u8s (zer 32)) := fun _ _ _ _ _ _ _ => by kernel_rfl
theorem wD0 : Wide 31 32 := ⟨by kernel_rfl, by kernel_rfl⟩
theorem index_D (g i : Nat) (I : Int) (hI : I = (i : Int)) (hi : i < 32) (w : World) : (Instr.indexAt 31 (.pointer (some ⟨g, 0, none⟩)) (.int .i64 I)).run Tryz.prog w = .ok (.pointer (some ⟨g, i, none⟩)) w :=
  index_at (by kernel_rfl) (by kernel_rfl) (fun _ => by kernel_rfl) g i I hI hi w
theorem spl_snoc (cs vs : List Value) (v : Value) (o : Nat) (h : o + vs.length < cs.length) : (spl cs vs o).set (o + vs.length) v = spl cs (vs ++ [v]) o := by
  unfold spl
  rw [List.set_append_right _ _ (by simp; omega)]
  have e : o + vs.length - (cs.take o ++ vs).length = 0 := by simp; omega
  rw [e, List.drop_eq_getElem_cons h]
  simp [Nat.add_assoc]
theorem spl_length (cs vs : List Value) (o : Nat) (h : o + vs.length ≤ cs.length) : (spl cs vs o).length = cs.length := by
  simp [spl]; omega
theorem u8s_take_succ (B : List Int) (k : Nat) (h : k < B.length) : u8s (B.take (k + 1)) = u8s (B.take k) ++ [.int .u8 (B.getD k 0)] := by
  rw [List.take_succ_eq_append_getElem h, u8s_app]
  congr 1
  simp [u8s, List.getD, h]
theorem spl_all (B : List Int) (n : Nat) (h : B.length = n) : spl (u8s (zer n)) (u8s B) 0 = u8s B := by
  unfold spl
  rw [List.drop_of_length_le (by rw [u8s_length, u8s_length, zer_length, h]; omega)]
  simp
theorem spl_next (B : List Int) (n k : Nat) (h : B.length = n) (hk : k < n) : (spl (u8s (zer n)) (u8s (B.take k)) 0).set k (.int .u8 (B.getD k 0)) = spl (u8s (zer n)) (u8s (B.take (k + 1))) 0 := by
  have hl : (B.take k).length = k := by rw [List.length_take]; omega
  have e2 := spl_snoc (u8s (zer n)) (u8s (B.take k)) (.int .u8 (B.getD k 0)) 0 (by rw [u8s_length, u8s_length, hl, zer_length]; omega)
  rwa [u8s_length, hl, Nat.zero_add, ← u8s_take_succ _ _ (by omega)] at e2
theorem spl_there (B : List Int) (n k : Nat) (h : B.length = n) (hk : k < n) : ∃ old, (spl (u8s (zer n)) (u8s (B.take k)) 0)[k]? = some old := by
  have hl : (B.take k).length = k := by rw [List.length_take]; omega
  have : k < (spl (u8s (zer n)) (u8s (B.take k)) 0).length := by rw [spl_length _ _ _ (by rw [u8s_length, u8s_length, hl, zer_length]; omega), u8s_length, zer_length]; exact hk
  exact ⟨_, List.getElem?_eq_getElem this⟩
theorem results_wide3 {fn : Func} {p u v : Tmp} {T : TypeId} (h : fn.results = #[.cell p T, .tmp u, .tmp v]) {n : Nat} (hT : Wide T n) (tmps : Array Value) (w : World)
    {g : Nat} {t : TypeId} {cs : List Value} (hp : tmps.getD p undef = .pointer (some ⟨g, 0, none⟩)) (hg : Blk w g t cs) (hl : cs.length = n) :
    (results fn tmps).run Tryz.prog w = .ok (.tuple #[.agg cs.toArray, tmps.getD u undef, tmps.getD v undef]) w := by
  have hp' : tmps[p]?.getD undef = .pointer (some ⟨g, 0, none⟩) := by simpa using hp
  obtain ⟨d, hu, hd⟩ := hT.und
  simp [results, h, hp', asAddr, run_loadVar_mid w g 0 T cs d (hg.range 0 cs (by simp)) hu hd (by rw [hT.size, hl])]
theorem sub_get (xs : List Int) (p i : Nat) (hi : i < 32) : ((xs.drop p).take 32).getD i 0 = xs.getD (p + i) 0 := by
  simp [List.getD, List.getElem?_drop, hi]
theorem elemBy : Tryz.prog.elem 44 = 5 := by kernel_rfl
set_option maxRecDepth 100000 in
theorem b_at (b o n cap i : Nat) (hi : i < n) (v : World) : (Instr.indexAt 44 (.slice (some ⟨b, o, none⟩) n cap) (.int .i64 (i : Int))).run Tryz.prog v = .ok (.pointer (some ⟨b, o + i, none⟩)) v := by
  rw [run_indexAt_slice v _ _ _ _ .i64 i undBs, if_pos ⟨by omega, by omega⟩, elemBy, sizeB]
  simp only [Result.andThen_ok, Int.toNat_natCast]
  rw [Addr.add_lit, Nat.mul_one]
set_option maxRecDepth 100000 in
set_option maxHeartbeats 2000000 in
theorem digAt_any (a : Option Addr) (len cap : Nat) (xs : List Int) (p : Nat) (w : World) (hs : Sl w a len cap xs) (hp : p + 32 ≤ len) :
    Calls Tryz.prog 100 #[.slice a len cap, .int .i64 (p : Int)] w fun r w' => r = .returned (.tuple #[.agg (u8s ((xs.drop p).take 32)).toArray, .int .i64 ((p : Int) + 32), .int .i64 0]) ∧ Below w.heap.size w w' := by
  have hlen := hs.hlen
  have hmx := hs.hreach
  obtain ⟨b, off, rfl, hce⟩ := hs.hcell (by omega)
  have hbl : b < w.heap.size := World.block_lt_of_cell? w _ (hce 0 (by omega))
  obtain ⟨ys, HY⟩ : ∃ ys, Hid ((xs.drop p).take 32 = ys) := ⟨_, hide rfl⟩
  have HX : Hid (ys.length = 32) := hide (by rw [← HY.out, List.length_take, List.length_drop]; omega)
  have HCE : Hid (∀ i, i < 32 → w.cell? ⟨b, off + (p + i), none⟩ = some (.int .u8 (ys.getD i 0))) := hide (fun i hi => by
    rw [← HY.out, sub_get xs p i hi]
    exact hce (p + i) (by omega))
  have hp0 : ¬ (p : Int) < 0 := by omega
  have hp1 : ¬ (len : Int) < (p : Int) := by omega
  have hp2 : wrap64 ((len : Int) - (p : Int)) = (len : Int) - (p : Int) := by unfold wrap64; omega
  have hp3 : ¬ (len : Int) - (p : Int) < 32 := by omega
  have hp4 : wrap64 ((p : Int) + 32) = (p : Int) + 32 := by unfold wrap64; omega
  rw [HY.out]
  clear hs hce hlen
  go_enter Tryz.func100, Tryz.ntmps100
  go_wp2_with (refine step_alloc zD0 rfl ?_)
  intro w1 g1 hg1 hle1 hb1
  go_wp2_with (refine step_alloc zD0 rfl ?_)
  intro w2 g2 hg2 hle2 hb2
  have hb12 : Below w.heap.size w w2 := hb1.trans (hb2.mono hb1.size)
  have G1 := hide (hg1.below hb2 hg1.lt)
  have G2 := hide hg2
  have n12 : g1 ≠ g2 := by have := hg1.lt; omega
  have l2 : w.heap.size ≤ g2 := by have := hb1.size; omega
  have HCE2 : Hid (∀ i, i < 32 → w2.cell? ⟨b, off + (p + i), none⟩ = some (.int .u8 (ys.getD i 0))) := hide (fun i hi => by
    rw [hb12.cell (p := ⟨b, off + (p + i), none⟩) hbl]; exact HCE.out i hi)
  have HB12 := hide hb12
  clear hg1 hg2 hb1 hb2 hb12 HCE hle2
  go_wp2
  go_loopw [8] (fun i wq => ∃ k : Nat, k ≤ 32 ∧ i = .int .i64 k ∧ Blk wq g2 31 (spl (u8s (zer 32)) (u8s (ys.take k)) 0) ∧ But g2 w2 wq) (fun i _ => 32 - (intOf i).toNat)
  case atStart => exact ⟨0, by omega, rfl, G2.out, But.refl _ _⟩
  case round =>
    clear G2
    obtain ⟨k, hk, rfl, hr, hbut⟩ := hrel
    have HR := hide hr
    have HBut := hide hbut
    clear hr hbut
    by_cases hk32 : k < 32
    · obtain ⟨old, hold⟩ := spl_there ys 32 k HX.out hk32
      have hcell : wr.cell? ⟨g2, k, none⟩ = some old := by rw [HR.out.cell]; exact hold
      have hfree : wr.frozen? ⟨g2, k, none⟩ = false := HR.out.free k
      have hsrc : wr.cell? ⟨b, off + (p + k), none⟩ = some (.int .u8 (ys.getD k 0)) := by
        rw [World.cell?_of_block (w := w2) (HBut.out.block b (by omega)), HCE2.out k hk32]
      have hkL : (k : Int) < 32 := by omega
      have hpk : wrap64 ((p : Int) + (k : Int)) = (p : Int) + (k : Int) := by unfold wrap64; omega
      have x2 := index_D g2 k (k : Int) rfl hk32
      have x1 : ∀ v : World, (Instr.indexAt 44 (.slice (some ⟨b, off, none⟩) len cap) (.int .i64 ((p : Int) + (k : Int)))).run Tryz.prog v = .ok (.pointer (some ⟨b, off + (p + k), none⟩)) v := fun v => by
        rw [show (p : Int) + (k : Int) = ((p + k : Nat) : Int) by omega]
        exact b_at b off len cap (p + k) (by omega) v
      have HN := hide (spl_next ys 32 k HX.out hk32)
      clear hold
      go_wp2
      refine ⟨⟨k + 1, by omega, by go_num, ?_, HBut.out.trans (But.setCell _ _ _ _)⟩, ?_⟩
      · have e := HR.out.set k (.int .u8 (ys.getD k 0))
        rw [HN.out] at e
        exact e
      · simp [intOf]; omega
    · obtain rfl : k = 32 := by omega
      have HF := hide HR.out
      rw [List.take_of_length_le (by rw [HX.out]; exact Nat.le_refl _), spl_all ys 32 HX.out] at HF
      have G1q := hide (G1.out.but HBut.out n12)
      go_wp2_with (first | (refine step_loadA wD0 rfl rfl HF.out (by rw [u8s_length]; exact HX.out) ?_) | (refine step_storeA wD0 rfl rfl rfl G1q.out (by rw [u8s_length]; exact HX.out) (One.u8 _) rfl ?_; intro w6 hg6 hbut6))
      refine bodyPost_ret (results_wide3 rfl wD0 _ _ rfl hg6 (by rw [u8s_length]; exact HX.out)) rfl ⟨rfl, ?_⟩
      exact HB12.out.trans ((HBut.out.below l2).trans (hbut6.below hle1))


section
variable {dst : Option Tmp} {ty : TypeId} {pos : String} {aft : Array Edge} {gd : Option (Nat × Bool)} {ops : Array Oper} {rest : List Oper} {a : Act} {w : World} {Q : Exit → Act → World → Prop}
set_option maxRecDepth 100000 in
theorem step_oneDT {x : Operand} {ds : List Int} (hw : Region.wanted ⟨dst, .buildSlice 63 1 #[(0, x)], ty, pos, aft, gd⟩ (yielded ops a.tmps) = true) (hx : a.eval x = .agg (u8s ds).toArray) (hd : ds.length = 32) (hb : isB ds) (h : ∀ w1 g, Ds w1 (some ⟨g, 0, none⟩) 1 1 ds → Below w.heap.size w w1 → wpList Tryz.prog ops Q rest (a.put dst (.slice (some ⟨g, 0, none⟩) 1 1)) w1) :
    wpList Tryz.prog ops Q (⟨dst, .buildSlice 63 1 #[(0, x)], ty, pos, aft, gd⟩ :: rest) a w :=
  BigFrame.wpList_want hw fun K hK => wp_oneD hx hd hb fun w1 g h1 h2 => hK _ _ (h w1 g h1 h2)
end
theorem takeT_more (ys : List Int) (k : Nat) : ys.take (32 * (k + 1)) = ys.take (32 * k) ++ (ys.drop (32 * k)).take 32 := by
  rw [Nat.mul_add, Nat.mul_one, List.take_add]
theorem take32_succ (xs : List Int) (k : Nat) : xs.take (32 * k) ++ (xs.drop (32 * k)).take 32 = xs.take (32 * (k + 1)) := (takeT_more xs k).symm
set_option maxRecDepth 100000 in
set_option maxHeartbeats 2000000 in
theorem digestsR_any (a : Option Addr) (n cap len : Nat) (xs : List Int) (w : World) (hs : Sl w a len cap xs) (hl : len = 32 * n) (hn : n ≤ 34359738368) :
    Calls Tryz.prog 79 #[.slice a len cap] w fun r w' => ∃ v, r = .returned v ∧ DOwn w' w.heap.size v n xs ∧ Below w.heap.size w w' := by
  have HS := hide hs
  have hx := hs.hlen
  have HX := hide (show xs.length = 32 * n by omega)
  have hlen : (len : Int) ≤ 1099511627776 := by omega
  have HLN := hide hl
  have HXB := hide hs.hbyte
  clear hs hx hl
  go_enter Tryz.func79, Tryz.ntmps79
  go_wp2_with fail
  go_loopw [3, 4] (fun o k wr => ∃ j J : Nat, k = .int .i64 (J : Int) ∧ Hid (32 * j = J) ∧ j ≤ n ∧ Hid (DOwn wr w.heap.size o j (xs.take (32 * j))) ∧ Hid (Below w.heap.size w wr)) (fun _ k _ => len - (intOf k).toNat)
  case atStart => exact ⟨0, 0, rfl, hide rfl, Nat.zero_le _, hide (by simpa using DOwn.nil _ _), hide (Below.refl _ _)⟩
  case round =>
    obtain ⟨j, J, rfl, HJ, hj, HO, HB⟩ := hrel
    by_cases hc : j < n
    · have hJb : J + 32 ≤ len := by rw [← HJ.out, HLN.out]; omega
      have hJ8 : (J : Int) ≤ 1099511627776 := by omega
      obtain ⟨J2, HJ2⟩ : ∃ x, Hid (J + 32 = x) := ⟨_, hide rfl⟩
      have hJ1 : (J : Int) + 32 = (J2 : Int) := by rw [← HJ2.out]; omega
      have hc' : (J2 : Int) ≤ (len : Int) := by rw [← HJ2.out]; omega
      have hJ3 : J < J2 := by rw [← HJ2.out]; omega
      have hJ4 : J2 ≤ len := by omega
      have HJN : Hid (32 * (j + 1) = J2) := hide (by rw [← HJ2.out, ← HJ.out]; omega)
      have HDG := hide (digAt_any a len cap xs J wr (HS.out.below HB.out) hJb)
      obtain ⟨ys, HY⟩ : ∃ ys, Hid ((xs.drop J).take 32 = ys) := ⟨_, hide rfl⟩
      rw [HY.out] at HDG
      have HYL : Hid (ys.length = 32) := hide (by rw [← HY.out, List.length_take, List.length_drop, HX.out, ← HJ.out]; omega)
      have HYB : Hid (isB ys) := hide (by rw [← HY.out]; exact (HXB.out.drop _).take _)
      have HUL : Hid ((u8s ys).length = 32) := hide (by rw [u8s_length]; exact HYL.out)
      rw [hJ1] at HDG
      have HT : Hid (xs.take (32 * j) ++ ys = xs.take (32 * (j + 1))) := hide (by rw [← HY.out, ← HJ.out]; exact take32_succ xs j)
      go_wp2_with fail
      refine (HDG.out).mono ?_
      rintro r w2 ⟨rfl, hb2⟩
      have O2 := hide (HO.out.below hb2)
      have B2 := hide (on_below HB.out hb2)
      clear hb2 HO HB HDG
      go_wp2_with (first | (refine step_alloc zD0 rfl ?_; intro w3 g3 hg3 hle3 hb3; have HG3 := hide hg3; clear hg3) | (refine step_storeA wD0 rfl rfl rfl HG3.out HUL.out (One.u8 _) rfl ?_; intro w4 hg4 hbut4; have HG4 := hide hg4; clear hg4) | (refine step_loadA wD0 rfl rfl HG4.out HUL.out ?_) | (refine step_oneDT rfl rfl HYL.out HYB.out ?_))
      intro w5 g5 hd5 hb5
      have O5 := hide ((O2.out.below (hb3.trans (hbut4.below hle3))).below hb5)
      have B5 := hide (on_below ((on_below B2.out hb3).trans (hbut4.below (Nat.le_trans B2.out.size hle3))) hb5)
      clear hb3 hle3 hbut4 hb5 HG3 HG4 O2 B2
      go_wp2_with (refine step_appendD rfl rfl rfl O5.out hd5 (by omega) B5.out.size ?_)
      intro v6 w6 ho6 hgr6
      rw [HT.out] at ho6
      have O6 := hide ho6
      have B6 := hide (B5.out.grown hgr6 B5.out.size (fun k hk => O5.out.lt k hk))
      clear ho6 hgr6 O5 B5 hd5
      obtain ⟨a6, n6, c6, rfl⟩ : ∃ a n c, v6 = Value.slice a n c := by
        rcases O6.out.2 with ⟨e1, _⟩ | ⟨_, _, _, e1, _⟩ <;> exact ⟨_, _, _, e1⟩
      go_wp2
      go_roundw
      case rel => exact ⟨j + 1, J2, rfl, HJN, hc, O6, B6⟩
      case measure => simp only [intOf]; omega
    · obtain rfl : j = n := by omega
      have HE : Hid (xs.take (32 * j) = xs) := hide (List.take_of_length_le (by rw [HX.out]; exact Nat.le_refl _))
      have hJe : J = len := by rw [← HJ.out, HLN.out]
      have hc' : ¬ (J : Int) + 32 ≤ (len : Int) := by omega
      have hJ8 : (J : Int) ≤ 1099511627776 := by omega
      clear hJe
      go_wp2
      go_ret
      exact ⟨_, rfl, by rw [← HE.out]; exact HO.out, HB.out⟩


end Go.Proofs.YtlgcjdgcgnlcaaaGreatDoor

/-
  Put.
-/
namespace Go.Proofs.YtlgcjdgcgnlcaaaGreatDoor
open Go.RowKit Go.Shelf
set_option linter.unusedVariables false
set_option linter.unusedSimpArgs false
set_option maxRecDepth 100000

/-- What Put answers on a level of n digests. -/
def puE (rs : List Rw) (h l i : Int) (n : Nat) : Int := if smE h l 0 = 0 then (if smE h l (i / 2 ^ h.toNat) = 0 then (if i = (n : Int) then reE rs (bA (smP h l (i / 2 ^ h.toNat))) else 40) else 2) else 2
def puS (s : Nat) (rs : List Rw) (h l i : Int) (n : Nat) (x : List Int) : List Rw := if puE rs h l i n = 0 then puW s rs (bA (smP h l (i / 2 ^ h.toNat))) x else rs
theorem OpR.pre {w w0 w1 : World} {d s : Nat} {D : Dm} {rs : List Rw} (hb : Below w.heap.size w w0) (h : OpR w0 w1 d s D rs) : OpR w w1 d s D rs := by
  obtain ⟨D', h1, h2, h3, h4⟩ := h
  have hs := hb.size
  exact ⟨D', h1, (Chs.of_below _ hb).after h2 (fun k hk => .inl hk), fun k hk => (h3 k hk).imp id (fun h => Nat.le_trans hs h), fun k hk => (h4 k hk).imp id (fun h => Nat.le_trans hs h)⟩
theorem OpR.comp {w w1 w2 : World} {d s : Nat} {D D1 : Dm} {rs2 : List Rw} (a2 : Chs (D.own d) w w1) (a3 : ∀ k, D1.own d k → D.own d k ∨ w.heap.size ≤ k) (a4 : ∀ k, D1.ro k → D.ro k ∨ w.heap.size ≤ k) (h : OpR w1 w2 d s D1 rs2) : OpR w w2 d s D rs2 := by
  obtain ⟨D', h1, h2, h3, h4⟩ := h
  have hs := a2.size
  refine ⟨D', h1, a2.after h2 a3, fun k hk => ?_, fun k hk => ?_⟩
  · rcases h3 k hk with h | h
    · exact a3 k h
    · exact .inr (Nat.le_trans hs h)
  · rcases h4 k hk with h | h
    · exact a4 k h
    · exact .inr (Nat.le_trans hs h)
theorem OpR.post {w w1 w2 : World} {d s : Nat} {D : Dm} {rs : List Rw} (h : OpR w w1 d s D rs) (hb : Below w1.heap.size w1 w2) : OpR w w2 d s D rs := by
  obtain ⟨D', h1, h2, h3, h4⟩ := h
  exact ⟨D', h1.below hb, h2.after (Chs.of_below (fun _ => False) hb) (fun k hk => hk.elim), h3, h4⟩
theorem smE_bin (h l i : Int) : smE h l i = 0 ∨ smE h l i = 2 := by unfold smE; split <;> simp
theorem smE_nm {h l i : Int} (k : smE h l i = 0) : nmB (bA (smP h l i)) = true := by
  have hb : smB h l i = true := by
    unfold smE at k
    split at k
    · assumption
    · cases k
  obtain ⟨H, L, I, rfl, rfl, rfl, q⟩ := smB_nats hb
  rw [smP_nat]
  exact sN_nm q
theorem shr_bd (i : Int) (h : Nat) (hi : i ≤ 9223372036854775807) : i / 2 ^ h ≤ 9223372036854775807 := by
  have hp : (0 : Int) < 2 ^ h := by
    have := Nat.two_pow_pos h
    have e : ((2 : Int) ^ h) = ((2 ^ h : Nat) : Int) := by simp [Int.natCast_pow]
    omega
  rcases Int.lt_or_le i 0 with h0 | h0
  · have := Int.ediv_neg_of_neg_of_pos h0 hp
    omega
  · have := Int.ediv_le_self (2 ^ h) h0
    omega
section
variable (d s : Nat) (rs : List Rw) (D : Dm) (w : World) (hd : DkAt w d s rs D)
include hd
/-- Count, whatever the level. -/
theorem scount_any (h l : Int) (n : Nat) (hl : l ≤ 9223372036854775807) (ht : PT w) (hn : smE h l 0 = 0 → Cn (play rs) h.toNat l.toNat n) (hwt : wt rs ≤ 1099511000000) : Calls Tryz.prog 17 #[.pointer (some ⟨d, 0, none⟩), .int .i64 h, .int .i64 l] w fun r w' =>
    r = .returned (.tuple #[.int .i64 (if smE h l 0 = 0 then (n : Int) else 0), .int .i64 (smE h l 0)]) ∧ Below w.heap.size w w' := by
  by_cases he : smE h l 0 = 0
  · have hb : smB h l 0 = true := by
      unfold smE at he
      split at he
      · assumption
      · cases he
    obtain ⟨H, L, I, rfl, rfl, e0, q⟩ := smB_nats hb
    obtain rfl : I = 0 := by omega
    rw [if_pos he, he]
    exact count_ok d s rs D w hd H L n q (hn he) ht hwt
  · have e2 : smE h l 0 = 2 := by rcases smE_bin h l 0 with h | h; exact absurd h he; exact h
    rw [if_neg he, e2]
    exact count_bad d s rs D w hd h l hl ht he
set_option maxHeartbeats 2000000 in
theorem put_any (h l i : Int) (n : Nat) (x : List Int) (hl : l ≤ 9223372036854775807) (hi : i ≤ 9223372036854775807) (hx : x.length = 32) (hxb : isB x) (ht : PT w) (hn : smE h l 0 = 0 → Cn (play rs) h.toNat l.toNat n) (hwt : wt rs + 80 ≤ 1099511000000) :
    Calls Tryz.prog 9 #[.pointer (some ⟨d, 0, none⟩), .int .i64 h, .int .i64 l, .int .i64 i, .agg (u8s x).toArray] w fun r w' => r = .returned (.int .i64 (puE rs h l i n)) ∧ OpR w w' d s D (puS s rs h l i n x) := by
  have HD := hide hd
  have HT := hide ht
  have HW := hide hwt
  have HCU : Hid (∀ W : World, DkAt W d s rs D → PT W → Calls Tryz.prog 17 #[.pointer (some ⟨d, 0, none⟩), .int .i64 h, .int .i64 l] W fun r w' => r = .returned (.tuple #[.int .i64 (if smE h l 0 = 0 then (n : Int) else 0), .int .i64 (smE h l 0)]) ∧ Below W.heap.size W w') := hide (fun W h1 h2 => scount_any d s rs D W h1 h l n hl h2 hn (by omega))
  have hib := shr_bd i h.toNat hi
  have HNM : Hid (∀ W : World, PT W → Calls Tryz.prog 32 #[.int .i64 h, .int .i64 l, .int .i64 (i / 2 ^ h.toNat)] W fun r w' => r = .returned (.tuple #[.string (bA (smP h l (i / 2 ^ h.toNat))), .int .i64 (smE h l (i / 2 ^ h.toNat))]) ∧ Below W.heap.size W w') := hide (fun W h2 => sname_any h l _ W hl hib h2)
  have HXL : Hid ((u8s x).length = 32) := hide (by rw [u8s_length, hx])
  by_cases he : smE h l 0 = 0
  · have hh : 1 ≤ h ∧ h ≤ 8 := by
      rcases Int.lt_or_le h 1 with hlt | hge
      · have := smB_h (h := h) (l := l) (i := 0) (.inl hlt)
        unfold smE at he
        rw [this] at he
        simp at he
      · rcases Int.lt_or_le 8 h with hlt | hle
        · have := smB_h (h := h) (l := l) (i := 0) (.inr hlt)
          unfold smE at he
          rw [this] at he
          simp at he
        · exact ⟨hge, hle⟩
    obtain ⟨hh1, hh8⟩ := hh
    rw [he, if_pos rfl] at HCU
    by_cases he2 : smE h l (i / 2 ^ h.toNat) = 0
    · rw [he2] at HNM
      have hnm := smE_nm he2
      have e1 : puE rs h l i n = if i = (n : Int) then reE rs (bA (smP h l (i / 2 ^ h.toNat))) else 40 := by unfold puE; rw [if_pos he, if_pos he2]
      obtain ⟨q, HQ⟩ : ∃ q, Hid (i / 2 ^ h.toNat = q) := ⟨_, hide rfl⟩
      have hq := HQ.out
      unfold puS
      rw [e1]
      rw [HQ.out] at HNM hnm ⊢
      generalize bA (smP h l q) = nm at *
      clear hd ht hn hwt hl hi hib he he2 e1
      by_cases hin : i = (n : Int)
      · rw [if_pos hin]
        have HRD : Hid (∀ W : World, DkAt W d s rs D → Calls Tryz.prog 33 #[.pointer (some ⟨d, 0, none⟩), .string nm] W fun r w' => r = .returned (.int .i64 (reE rs nm)) ∧ OpR W w' d s D (reS rs nm)) := hide (fun W hW => ready_any d s rs D W hW nm hnm (by have := HW.out; omega))
        by_cases hr : reE rs nm = 0
        · have e2 : reS rs nm = crS rs nm := by unfold reE at hr; unfold reS; split at hr; rename_i h0; rw [if_pos h0]; cases hr
          rw [hr, e2] at HRD
          rw [hr, if_pos rfl]
          have hfe : fE (crS rs nm) nm = 0 := by
            rw [crS_is hnm]
            split
            · have e3 : play (rs ++ [rCr nm]) = upd (play rs) nm (some []) := by rw [play_snoc, do_cr]
              simp [fE, hnm, e3, upd_same]
            · rename_i h0
              cases hp : play rs nm with
              | none => exact absurd hp h0
              | some ys => simp [fE, hnm, hp]
          have hwc : wt (crS rs nm) ≤ wt rs + 1 := by
            rw [crS_is hnm]
            split
            · rw [wt_app]; simp [wt, rCr]
            · omega
          have HAP : Hid (∀ (W : World) (D1 : Dm) (a : Option Addr), DkAt W d s (crS rs nm) D1 → Sl W a 32 32 x → Calls Tryz.prog 28 #[.pointer (some ⟨d, 0, none⟩), .string nm, .slice a 32 32] W fun r w' => r = .returned (.int .i64 0) ∧ OpR W w' d s D1 (puW s rs nm x)) := hide (fun W D1 a hW hS => by
            have := append_any d s (crS rs nm) D1 W hW nm a 32 32 x hS (by have := HW.out; omega)
            rw [hfe] at this
            exact this)
          have HX := hide hx
          have HXB := hide hxb
          subst hin
          clear hr e2 hfe hwc hnm hx hxb
          go_enter Tryz.func9, Tryz.ntmps9
          go_wp2_with (refine step_box (cs := u8s x) rfl rfl ?_; intro w1 g1 hg1 hle1 hb1; have HG1 := hide (And.intro hg1 hle1); have HB1 := hide hb1; clear hg1 hle1 hb1)
          refine (HCU.out _ (HD.out.below HB1.out) (HT.out.below HB1.out)).mono ?_
          rintro r w2 ⟨rfl, hb2⟩
          have HB2 := hide (on_below HB1.out hb2)
          have HG2 := hide (HG1.out.1.on hb2)
          clear hb2
          go_wp2_with fail
          refine (HNM.out _ (HT.out.below HB2.out)).mono ?_
          rintro r w3 ⟨rfl, hb3⟩
          have HB3 := hide (on_below HB2.out hb3)
          have HG3 := hide (HG2.out.on hb3)
          clear hb3
          go_wp2_with fail
          refine (HRD.out _ (HD.out.below HB3.out)).mono ?_
          rintro r w4 ⟨rfl, ho⟩
          have hsa := slice_Ds g1
          obtain ⟨D1, a1, a2, a3, a4⟩ := ho
          have hown : ¬ D.own d g1 := fun hk => by
            have h1 := HD.out.lt (.inl hk)
            have h2 := HG1.out.2
            omega
          have hg4 := HG3.out.chs a2 (fun hk => hown hk)
          have hsl := hg4.sl0 HXB.out (by rw [HX.out]; decide)
          rw [HX.out] at hsl
          have HSL := hide hsl
          have HA1 := hide a1
          have HOC : Hid (∀ w5 : World, OpR w4 w5 d s D1 (puW s rs nm x) → OpR w w5 d s D (puW s rs nm x)) := hide (fun w5 h5 => OpR.pre HB3.out (OpR.comp a2 a3 a4 h5))
          clear a1 a2 a3 a4 hown hg4 hsl
          go_wp2_with fail
          refine (HAP.out _ _ _ HA1.out HSL.out).mono ?_
          rintro r w5 ⟨rfl, ho5⟩
          go_wp2
          go_ret
          exact ⟨rfl, HOC.out _ ho5⟩
        · have e2 : reS rs nm = rs := by unfold reE at hr; unfold reS; split at hr; exact absurd rfl hr; rename_i h0; rw [if_neg h0]
          rw [e2] at HRD
          rw [if_neg hr]
          subst hin
          have HX := hide hx
          have HXB := hide hxb
          clear e2 hnm hx hxb
          generalize reE rs nm = er at *
          go_enter Tryz.func9, Tryz.ntmps9
          go_wp2_with (refine step_box (cs := u8s x) rfl rfl ?_; intro w1 g1 hg1 hle1 hb1; have HG1 := hide (And.intro hg1 hle1); have HB1 := hide hb1; clear hg1 hle1 hb1)
          refine (HCU.out _ (HD.out.below HB1.out) (HT.out.below HB1.out)).mono ?_
          rintro r w2 ⟨rfl, hb2⟩
          have HB2 := hide (on_below HB1.out hb2)
          have HG2 := hide (HG1.out.1.on hb2)
          clear hb2
          go_wp2_with fail
          refine (HNM.out _ (HT.out.below HB2.out)).mono ?_
          rintro r w3 ⟨rfl, hb3⟩
          have HB3 := hide (on_below HB2.out hb3)
          have HG3 := hide (HG2.out.on hb3)
          clear hb3
          go_wp2_with fail
          refine (HRD.out _ (HD.out.below HB3.out)).mono ?_
          rintro r w4 ⟨rfl, ho⟩
          go_wp2
          go_ret
          exact ⟨rfl, ho.pre HB3.out⟩
      · rw [if_neg hin, if_neg (by decide)]
        clear hnm hx hxb
        go_enter Tryz.func9, Tryz.ntmps9
        go_wp2_with (refine step_box (cs := u8s x) rfl rfl ?_; intro w1 g1 hg1 hle1 hb1; have HG1 := hide (And.intro hg1 hle1); have HB1 := hide hb1; clear hg1 hle1 hb1)
        refine (HCU.out _ (HD.out.below HB1.out) (HT.out.below HB1.out)).mono ?_
        rintro r w2 ⟨rfl, hb2⟩
        have HB2 := hide (on_below HB1.out hb2)
        have HG2 := hide (HG1.out.1.on hb2)
        clear hb2
        go_wp2_with fail
        refine (HNM.out _ (HT.out.below HB2.out)).mono ?_
        rintro r w3 ⟨rfl, hb3⟩
        have HB3 := hide (on_below HB2.out hb3)
        have HG3 := hide (HG2.out.on hb3)
        clear hb3
        go_wp2
        go_ret
        exact ⟨rfl, OpR.below HD.out HB3.out⟩
    · have e1 : puE rs h l i n = 2 := by unfold puE; rw [if_pos he, if_neg he2]
      unfold puS
      rw [e1, if_neg (by decide)]
      have e3 : smE h l (i / 2 ^ h.toNat) = 2 := by rcases smE_bin h l (i / 2 ^ h.toNat) with h | h; exact absurd h he2; exact h
      rw [e3] at HNM
      generalize smP h l (i / 2 ^ h.toNat) = p at *
      obtain ⟨q, HQ⟩ : ∃ q, Hid (i / 2 ^ h.toNat = q) := ⟨_, hide rfl⟩
      have hq := HQ.out
      rw [HQ.out] at HNM
      clear hd ht hn hwt hl hi hib he he2 e1 e3 hx hxb
      go_enter Tryz.func9, Tryz.ntmps9
      go_wp2_with (refine step_box (cs := u8s x) rfl rfl ?_; intro w1 g1 hg1 hle1 hb1; have HG1 := hide (And.intro hg1 hle1); have HB1 := hide hb1; clear hg1 hle1 hb1)
      refine (HCU.out _ (HD.out.below HB1.out) (HT.out.below HB1.out)).mono ?_
      rintro r w2 ⟨rfl, hb2⟩
      have HB2 := hide (on_below HB1.out hb2)
      have HG2 := hide (HG1.out.1.on hb2)
      clear hb2
      go_wp2_with fail
      refine (HNM.out _ (HT.out.below HB2.out)).mono ?_
      rintro r w3 ⟨rfl, hb3⟩
      have HB3 := hide (on_below HB2.out hb3)
      have HG3 := hide (HG2.out.on hb3)
      clear hb3
      go_wp2
      go_ret
      exact ⟨rfl, OpR.below HD.out HB3.out⟩
  · have e1 : puE rs h l i n = 2 := by unfold puE; rw [if_neg he]
    unfold puS
    rw [e1, if_neg (by decide)]
    have e3 : smE h l 0 = 2 := by rcases smE_bin h l 0 with h | h; exact absurd h he; exact h
    rw [e3, if_neg (by decide)] at HCU
    clear hd ht hn hwt hl hi hib he e1 e3 hx hxb HNM
    go_enter Tryz.func9, Tryz.ntmps9
    go_wp2_with (refine step_box (cs := u8s x) rfl rfl ?_; intro w1 g1 hg1 hle1 hb1; have HG1 := hide (And.intro hg1 hle1); have HB1 := hide hb1; clear hg1 hle1 hb1)
    refine (HCU.out _ (HD.out.below HB1.out) (HT.out.below HB1.out)).mono ?_
    rintro r w2 ⟨rfl, hb2⟩
    have HB2 := hide (on_below HB1.out hb2)
    have HG2 := hide (HG1.out.1.on hb2)
    clear hb2
    go_wp2
    go_ret
    exact ⟨rfl, OpR.below HD.out HB2.out⟩
end

end Go.Proofs.YtlgcjdgcgnlcaaaGreatDoor
