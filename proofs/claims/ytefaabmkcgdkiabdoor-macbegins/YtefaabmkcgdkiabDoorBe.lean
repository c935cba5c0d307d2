/-
  The walk of MacBegins.
-/
import Derived.Test.YtefaabmkcgdkiabDoorEx
import Derived.Test.YtefaabmkcgdkiabDoorFr
namespace Go.Proofs.YtefaabmkcgdkiabDoor
open Go.ChangeShapes Go.WideShapes Go.ChangeAt Go.RowKit
set_option linter.unusedVariables false

/-- A struct of two numbers that came in. -/
theorem two_open {T : TypeId} {f0 f1 : Field} (hu : Tryd.prog.underlying T = some (.struct #[f0, f1])) (hc : Tryd.prog.cellsOf T = 2) (o0 : f0.offset = 0) (o1 : f1.offset = 1) (t0 : f0.type = 3) (t1 : f1.type = 3)
    {H : Type} {enc : TypeId × Value → H} {W : World} {base : Nat} {v : Value} {d : DataW H} {p : List MemPlace}
    (hv : Value.okWide Tryd.prog W .any base T v) (h : DataW.Trod enc Tryd.prog W 0 (fun _ => true) true T v d p) :
    ∃ n m : Int, v = .agg #[.int .i64 n, .int .i64 m] ∧ (Lit.int .i64 n).wf = true ∧ (Lit.int .i64 m).wf = true := by
  obtain ⟨cs, rfl, hsz⟩ := okWide_struct hu hv
  rw [hc] at hsz
  obtain ⟨fuel, hf⟩ := h
  obtain ⟨y0, y1, q, _, _, h0, h1⟩ := trod_struct2 hu hf
  have c1 : Tryd.prog.cellsOf 3 = 1 := by kernel_rfl
  have hi : Tryd.prog.underlying 3 = some (.int .i64) := by kernel_rfl
  rw [o0, t0, c1] at h0
  rw [o1, t1, c1] at h1
  obtain ⟨n, e0, _, w0⟩ := DataW.trod_int hi h0
  obtain ⟨m, e1, _, w1⟩ := DataW.trod_int hi h1
  refine ⟨n, m, ?_, w0, w1⟩
  obtain ⟨l⟩ := cs
  simp only [Value.cells] at e0 e1
  match l, hsz with
  | [x, y], _ =>
    simp at e0 e1
    rw [e0, e1]

theorem exl_pre (key info : List Int) (n N : Nat) (hn : n ≤ 32 * N) : ∀ j, (exl key info (N + j)).take n = (exl key info N).take n
  | 0 => rfl
  | j + 1 => by
    show (exl key info (N + j) ++ _).take n = _
    rw [List.take_append_of_le_length (by rw [exl_length]; omega)]
    exact exl_pre key info n N hn j

set_option maxRecDepth 100000 in
set_option maxHeartbeats 4000000 in
theorem begins_walk (ds : List Int) (a : Option Addr) (len cap : Nat) (xs : List Int) (n m : Int) (w : World) (hd : ds.length = 32) (hdw : ∀ x ∈ ds, (Lit.int .u8 x).wf = true) (hs : Sl w a len cap xs) (hl : cap ≤ 140737488351232) (hn : (Lit.int .i64 n).wf = true) (hm : (Lit.int .i64 m).wf = true) (hk : KT w) :
    Calls Tryd.prog 4 #[.agg (u8s ds).toArray, .slice a len cap, .agg #[.int .i64 n, .int .i64 m]] w fun e w' => e = .returned (.bool true) ∧ Below w.heap.size w w' := by
  have HS := hide hs
  have HK := hide hk
  have HD := hide hd
  have HDB := hide (show isB ds from fun x hx => bounds_u8 (hdw x hx))
  have HDL := hide (show (u8s ds).length = 32 by rw [u8s_length, HD.out])
  clear hs hk hd hdw hn hm
  go_enter Tryd.func4, Tryd.ntmps4
  go_wp2_with (refine step_box rfl rfl ?_)
  intro w1 g3 hg1 hle1 hb1
  go_wp2_with (refine step_box (cs := [Value.int .i64 n, Value.int .i64 m]) rfl rfl ?_)
  intro w2 g5 hg2 hle2 hb2
  have HB2 := hide (hb1.trans (hb2.mono hb1.size))
  have G3 := hide (hg1.below hb2 hg1.lt)
  have c0 : w2.cell? ⟨g5, 0, none⟩ = some (.int .i64 n) := by rw [hg2.cell]; rfl
  have c1 : w2.cell? ⟨g5, 1, none⟩ = some (.int .i64 m) := by rw [hg2.cell]; rfl
  clear hg1 hg2 hb1 hb2 hle1 hle2
  go_wp2_with fail
  go_quiet (fail)
  have HB3 := hide (below_drewN HB2.out nq)
  have G33 := hide (G3.out.drewN nq)
  clear c0 c1 G3 HB2
  revert HB3 G33
  generalize w2.drewN nq = w3
  intro HB3 G33
  by_cases h1 : n < 0
  · go_wp2
    go_ret
    exact ⟨rfl, HB3.out⟩
  by_cases h2 : m < n
  · go_wp2
    go_ret
    exact ⟨rfl, HB3.out⟩
  by_cases h3 : 8160 < m
  · go_wp2
    go_ret
    exact ⟨rfl, HB3.out⟩
  obtain ⟨N, rfl⟩ : ∃ N : Nat, n = (N : Int) := ⟨n.toNat, by omega⟩
  obtain ⟨M, rfl⟩ : ∃ M : Nat, m = (M : Int) := ⟨m.toNat, by omega⟩
  have hNM : N ≤ M := by omega
  have hM : M ≤ 8160 := by omega
  have S3 := hide (HS.out.below HB3.out)
  have K3 := hide (HK.out.below HB3.out HK.out.lt)
  go_wp2_with (refine step_loadA wD rfl rfl G33.out HDL.out ?_)
  refine (expand_any ds _ _ _ xs N _ HD.out HDB.out S3.out (by omega) K3.out).mono ?_
  rintro e w4 ⟨gA, rfl, hlA, hgA, hb4⟩
  have HB4 := hide (HB3.out.trans (hb4.mono HB3.out.size))
  have G34 := hide (G33.out.below hb4 G33.out.lt)
  have GA := hide hgA
  have S4 := hide (HS.out.below HB4.out)
  have K4 := hide (HK.out.below HB4.out HK.out.lt)
  clear hb4 hgA S3 K3 G33 hlA
  go_wp2_with (refine step_loadA wD rfl rfl G34.out HDL.out ?_)
  refine (expand_any ds _ _ _ xs M _ HD.out HDB.out S4.out hM K4.out).mono ?_
  rintro e w5 ⟨gB, rfl, hlB, hgB, hb5⟩
  have HB5 := hide (HB4.out.trans (hb5.mono HB4.out.size))
  have LA := hide (show ((exl ds xs ((N + 31) / 32)).take N).length = N by rw [List.length_take, exl_length]; omega)
  have LB := hide (show ((exl ds xs ((M + 31) / 32)).take M).length = M by rw [List.length_take, exl_length]; omega)
  have EQ := hide (show ((exl ds xs ((M + 31) / 32)).take M).take N = (exl ds xs ((N + 31) / 32)).take N by
    rw [List.take_take, show min N M = N by omega]
    have := exl_pre ds xs N ((N + 31) / 32) (by omega) ((M + 31) / 32 - (N + 31) / 32)
    rwa [show (N + 31) / 32 + ((M + 31) / 32 - (N + 31) / 32) = (M + 31) / 32 by omega] at this)
  have SA := hide ((GA.out.below hb5 GA.out.lt).sl0 ((exl_isB _ _ _).take _) (by rw [LA.out]; omega))
  have SB := hide (hgB.sl0 ((exl_isB _ _ _).take _) (by rw [LB.out]; omega))
  rw [LA.out] at SA
  rw [LB.out] at SB
  have SC := hide (SB.out.take N hNM)
  rw [EQ.out] at SC
  revert SA SC
  generalize (exl ds xs ((N + 31) / 32)).take N = A
  intro SA SC
  clear hb5 hgB S4 K4 G34 GA hlB SB EQ LA LB
  go_wp2_with fail
  refine wp_region_noPanic ?_
  refine wp_region_held_drew (S := fun v : World => Sl v (some ⟨gA, 0, none⟩) N N A ∧ Sl v (some ⟨gB, 0, none⟩) N M A) (by kernel_rfl) ⟨SA.out.below ((Below.refl _ _).drew), SC.out.below ((Below.refl _ _).drew)⟩ (fun hHeld => ?_)
  refine takeH 0 42 (.int .i64 0) hHeld rfl rfl (by kernel_rfl) (by kernel_rfl) (by kernel_rfl) (fun _ _ _ h => h) (Or.inl ⟨by rfl, fun w _ => by go_simp⟩) ?_
  simp only [Act.put, List.setIfInBounds_toArray, List.set_cons_zero, List.set_cons_succ]
  refine takeH 1 43 (.bool true) hHeld rfl rfl (by kernel_rfl) (by kernel_rfl) (by kernel_rfl) (fun _ _ _ h => h) (Or.inl ⟨by rfl, fun w _ => by go_simp⟩) ?_
  simp only [Act.put, List.setIfInBounds_toArray, List.set_cons_zero, List.set_cons_succ]
  refine takeH 2 44 (.bool true) hHeld rfl rfl (by kernel_rfl) (by kernel_rfl) (by kernel_rfl) (fun _ _ _ h => h) (Or.inl ⟨by rfl, fun w _ => by go_simp⟩) ?_
  simp only [Act.put, List.setIfInBounds_toArray, List.set_cons_zero, List.set_cons_succ]
  refine takeH 3 45 (.int .i64 0) hHeld rfl rfl (by kernel_rfl) (by kernel_rfl) (by kernel_rfl) (fun _ _ _ h => h) (Or.inl ⟨by rfl, fun w _ => by go_simp⟩) ?_
  simp only [Act.put, List.setIfInBounds_toArray, List.set_cons_zero, List.set_cons_succ]
  refine takeH 4 46 (.bool true) hHeld rfl rfl (by kernel_rfl) (by kernel_rfl) (by kernel_rfl) (fun _ _ _ h => h) (Or.inl ⟨by rfl, fun w _ => by go_simp⟩) ?_
  simp only [Act.put, List.setIfInBounds_toArray, List.set_cons_zero, List.set_cons_succ]
  refine takeH 5 47 (.bool true) hHeld rfl rfl (by kernel_rfl) (by kernel_rfl) (by kernel_rfl) (fun _ _ _ h => h) (Or.inl ⟨by rfl, fun w _ => by go_simp⟩) ?_
  simp only [Act.put, List.setIfInBounds_toArray, List.set_cons_zero, List.set_cons_succ]
  refine takeH 6 48 (.bool true) hHeld rfl rfl (by kernel_rfl) (by kernel_rfl) (by kernel_rfl) (fun _ _ _ h => h) (Or.inl ⟨by rfl, fun w _ => by go_simp⟩) ?_
  simp only [Act.put, List.setIfInBounds_toArray, List.set_cons_zero, List.set_cons_succ]
  refine takeH 7 49 (.slice (some ⟨gA, 0, none⟩) N N) hHeld rfl rfl (by kernel_rfl) (by kernel_rfl) (by kernel_rfl) (fun _ _ _ h => h) (Or.inl ⟨by rfl, fun w _ => by go_simp⟩) ?_
  simp only [Act.put, List.setIfInBounds_toArray, List.set_cons_zero, List.set_cons_succ]
  refine takeH 8 50 (.int .i64 (N : Int)) hHeld rfl rfl (by kernel_rfl) (by kernel_rfl) (by kernel_rfl) (fun _ _ _ h => h) (Or.inl ⟨by rfl, fun w _ => by go_simp⟩) ?_
  simp only [Act.put, List.setIfInBounds_toArray, List.set_cons_zero, List.set_cons_succ]
  refine takeH 9 51 (.int .i64 (N : Int)) hHeld rfl rfl (by kernel_rfl) (by kernel_rfl) (by kernel_rfl) (fun _ _ _ h => h) (Or.inl ⟨by rfl, fun w _ => by go_simp⟩) ?_
  simp only [Act.put, List.setIfInBounds_toArray, List.set_cons_zero, List.set_cons_succ]
  refine takeH 10 52 (.bool true) hHeld rfl rfl (by kernel_rfl) (by kernel_rfl) (by kernel_rfl) (fun _ _ _ h => h) (Or.inl ⟨by rfl, fun w _ => by go_simp⟩) ?_
  simp only [Act.put, List.setIfInBounds_toArray, List.set_cons_zero, List.set_cons_succ]
  refine takeH 11 53 (.bool true) hHeld rfl rfl (by kernel_rfl) (by kernel_rfl) (by kernel_rfl) (fun _ _ _ h => h) (Or.inl ⟨by rfl, fun w _ => by go_simp⟩) ?_
  simp only [Act.put, List.setIfInBounds_toArray, List.set_cons_zero, List.set_cons_succ]
  refine takeH 12 54 (.bool true) hHeld rfl rfl (by kernel_rfl) (by kernel_rfl) (by kernel_rfl) (fun _ _ _ h => h) (Or.inl ⟨by rfl, fun w _ => by go_simp⟩) ?_
  simp only [Act.put, List.setIfInBounds_toArray, List.set_cons_zero, List.set_cons_succ]
  refine takeH 13 55 (.slice (some ⟨gB, 0, none⟩) M M) hHeld rfl rfl (by kernel_rfl) (by kernel_rfl) (by kernel_rfl) (fun _ _ _ h => h) (Or.inl ⟨by rfl, fun w _ => by go_simp⟩) ?_
  simp only [Act.put, List.setIfInBounds_toArray, List.set_cons_zero, List.set_cons_succ]
  refine takeH 14 56 (.int .i64 (M : Int)) hHeld rfl rfl (by kernel_rfl) (by kernel_rfl) (by kernel_rfl) (fun _ _ _ h => h) (Or.inl ⟨by rfl, fun w _ => by go_simp⟩) ?_
  simp only [Act.put, List.setIfInBounds_toArray, List.set_cons_zero, List.set_cons_succ]
  refine takeH 15 57 (.int .i64 (M : Int)) hHeld rfl rfl (by kernel_rfl) (by kernel_rfl) (by kernel_rfl) (fun _ _ _ h => h) (Or.inl ⟨by rfl, fun w _ => by go_simp⟩) ?_
  simp only [Act.put, List.setIfInBounds_toArray, List.set_cons_zero, List.set_cons_succ]
  refine takeH 16 58 (.bool true) hHeld rfl rfl (by kernel_rfl) (by kernel_rfl) (by kernel_rfl) (fun _ _ _ h => h) (Or.inl ⟨by rfl, fun w _ => by go_simp⟩) ?_
  simp only [Act.put, List.setIfInBounds_toArray, List.set_cons_zero, List.set_cons_succ]
  refine takeH 17 59 (.bool true) hHeld rfl rfl (by kernel_rfl) (by kernel_rfl) (by kernel_rfl) (fun _ _ _ h => h) (Or.inl ⟨by rfl, fun w _ => by go_simp⟩) ?_
  simp only [Act.put, List.setIfInBounds_toArray, List.set_cons_zero, List.set_cons_succ]
  refine takeH 18 60 (.bool true) hHeld rfl rfl (by kernel_rfl) (by kernel_rfl) (by kernel_rfl) (fun _ _ _ h => h) (Or.inl ⟨by rfl, fun w _ => by go_simp⟩) ?_
  simp only [Act.put, List.setIfInBounds_toArray, List.set_cons_zero, List.set_cons_succ]
  refine takeH 19 61 (.slice (some ⟨gB, 0, none⟩) M M) hHeld rfl rfl (by kernel_rfl) (by kernel_rfl) (by kernel_rfl) (fun _ _ _ h => h) (Or.inl ⟨by rfl, fun w _ => by go_simp⟩) ?_
  simp only [Act.put, List.setIfInBounds_toArray, List.set_cons_zero, List.set_cons_succ]
  refine takeH 20 62 (.int .i64 (N : Int)) hHeld rfl rfl (by kernel_rfl) (by kernel_rfl) (by kernel_rfl) (fun _ _ _ h => h) (Or.inl ⟨by rfl, fun w _ => by go_simp⟩) ?_
  simp only [Act.put, List.setIfInBounds_toArray, List.set_cons_zero, List.set_cons_succ]
  refine takeH 21 63 (.slice (some ⟨gB, 0, none⟩) N M) hHeld rfl rfl (by kernel_rfl) (by kernel_rfl) (by kernel_rfl) (fun _ _ _ h => h) (Or.inl ⟨by rfl, fun w _ => run_op rfl (sl_to gB M M N (N : Int) rfl hNM w)⟩) ?_
  simp only [Act.put, List.setIfInBounds_toArray, List.set_cons_zero, List.set_cons_succ]
  refine takeH 22 64 (.string (str A)) hHeld rfl rfl (by kernel_rfl) (by kernel_rfl) (by kernel_rfl) (fun _ _ _ h => h) (Or.inl ⟨by rfl, fun w hw => run_op rfl (toStr hw.2)⟩) ?_
  simp only [Act.put, List.setIfInBounds_toArray, List.set_cons_zero, List.set_cons_succ]
  refine takeH 23 65 (.slice (some ⟨gA, 0, none⟩) N N) hHeld rfl rfl (by kernel_rfl) (by kernel_rfl) (by kernel_rfl) (fun _ _ _ h => h) (Or.inl ⟨by rfl, fun w _ => by go_simp⟩) ?_
  simp only [Act.put, List.setIfInBounds_toArray, List.set_cons_zero, List.set_cons_succ]
  refine takeH 24 66 (.string (str A)) hHeld rfl rfl (by kernel_rfl) (by kernel_rfl) (by kernel_rfl) (fun _ _ _ h => h) (Or.inl ⟨by rfl, fun w hw => run_op rfl (toStr hw.1)⟩) ?_
  simp only [Act.put, List.setIfInBounds_toArray, List.set_cons_zero, List.set_cons_succ]
  refine takeH 25 67 (.bool true) hHeld rfl rfl (by kernel_rfl) (by kernel_rfl) (by kernel_rfl) (fun _ _ _ h => h) (Or.inl ⟨by rfl, fun w _ => by go_simp⟩) ?_
  simp only [Act.put, List.setIfInBounds_toArray, List.set_cons_zero, List.set_cons_succ]
  refine takeH 26 68 (.bool true) hHeld rfl rfl (by kernel_rfl) (by kernel_rfl) (by kernel_rfl) (fun _ _ _ h => h) (Or.inl ⟨by rfl, fun w _ => by go_simp⟩) ?_
  simp only [Act.put, List.setIfInBounds_toArray, List.set_cons_zero, List.set_cons_succ]
  refine takeH 27 6 (.bool true) hHeld rfl rfl (by kernel_rfl) (by kernel_rfl) (by kernel_rfl) (fun _ _ _ h => h) (Or.inl ⟨by rfl, fun w _ => by go_simp⟩) ?_
  simp only [Act.put, List.setIfInBounds_toArray, List.set_cons_zero, List.set_cons_succ]
  refine wpAnyH_done (by kernel_rfl) ?_ _
  refine NoPanic.normal ?_
  clear hHeld
  go_wp2
  go_ret
  exact ⟨rfl, HB5.out.drew⟩

end Go.Proofs.YtefaabmkcgdkiabDoor
