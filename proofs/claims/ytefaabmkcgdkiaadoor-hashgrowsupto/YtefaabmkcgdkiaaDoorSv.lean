/-
  Save: the bytes of a state.
-/
import Derived.Test.YtefaabmkcgdkiaaDoorGr
import Derived.Test.YtefaabmkcgdkiaaDoorOw
namespace Go.Proofs.YtefaabmkcgdkiaaDoor
open Go.RowKit
set_option linter.unusedVariables false

/-- The bytes of a state. -/
def sv (h : List Int) (n0 : Nat) (m : List Int) : List Int := wb (ov h m (bk m)) ++ be ((n0 + m.length : Nat) : Int) 8 ++ tl m
theorem sv_length (h : List Int) (n0 : Nat) (m : List Int) (hh : h.length = 8) : (sv h n0 m).length = 40 + m.length % 64 := by
  rw [sv, List.length_append, List.length_append, wb_length, ov_length _ _ hh, be_length, tl_length]
theorem sv_isB (h : List Int) (n0 : Nat) (m : List Int) (hm : isB m) : isB (sv h n0 m) := ((wb_isB _).append (be_isB _ _)).append (hm.drop _)

theorem sv_spl (A N R : List Int) (r : Nat) (hA : A.length = 32) (hN : N.length = 8) (hR : R.length = r) :
    spl (spl (spl (u8s (zer (40 + r))) (u8s A) 0) (u8s N) 32) (u8s R) 40 = u8s (A ++ N ++ R) := by
  have e1 : spl (u8s (zer (40 + r))) (u8s A) 0 = u8s (A ++ zer (8 + r)) := by
    unfold spl
    rw [u8s_length, hA, u8s_app]
    simp [u8s, zer]
    omega
  have e2 : spl (u8s (A ++ zer (8 + r))) (u8s N) 32 = u8s (A ++ N ++ zer r) := by
    rw [spl_u8]
    congr 1
    unfold splB
    rw [hN, List.take_append_of_le_length (by omega), List.take_of_length_le (by omega)]
    congr 1
    rw [show 32 + 8 = A.length + 8 by omega, ← List.drop_drop, List.drop_left]
    simp [zer]
  rw [e1, e2, spl_u8]
  congr 1
  unfold splB
  have hl : (A ++ N).length = 40 := by simp [hA, hN]
  rw [hR, List.take_append_of_le_length (by omega), List.take_of_length_le (by omega)]
  rw [List.drop_of_length_le (by simp [hA, hN, zer_length]; omega)]
  simp

/-- out[k:] of a whole row -/
theorem slice_row (g n k : Nat) (K : Int) (hK : K = (k : Int)) (hk : k < n) (v : World) :
    (Instr.slice 27 (.slice (some ⟨g, 0, none⟩) n n) (some (.int .i64 K)) none none).run Tryd.prog v = .ok (.slice (some ⟨g, k, none⟩) (n - k) (n - k)) v := by
  subst hK
  rw [run_slice_l v _ _ _ _ und22 .i64 k (by omega) (by omega), elem22, sizeB]
  have : ¬ n = k := by omega
  simp [sliced, this, Addr.add_lit]
theorem slice_rowE (g n k : Nat) (K : Int) (hK : K = (k : Int)) (hk : k ≤ n) : ∃ a, (∀ v : World, (Instr.slice 27 (.slice (some ⟨g, 0, none⟩) n n) (some (.int .i64 K)) none none).run Tryd.prog v = .ok (.slice a (n - k) (n - k)) v) ∧ (0 < n - k → a = some ⟨g, k, none⟩) := by
  by_cases h : k < n
  · exact ⟨_, slice_row g n k K hK h, fun _ => rfl⟩
  · obtain rfl : k = n := by omega
    refine ⟨some ⟨g, 0, none⟩, fun v => ?_, fun h0 => by omega⟩
    subst hK
    rw [run_slice_l v _ _ _ _ und22 .i64 k (by omega) (by omega), elem22, sizeB]
    simp [sliced]

set_option maxRecDepth 100000 in
set_option maxHeartbeats 2000000 in
theorem save_any (h : List Int) (n0 : Nat) (m : List Int) (g : Nat) (w : World) (hg : Blk w g 65 (stM h n0 m)) (hh : h.length = 8) (hn0 : n0 % 64 = 0) (hmb : isB m) (hbd : n0 + m.length ≤ 2305843009213693951) :
    Calls Tryd.prog 16 #[.pointer (some ⟨g, 0, none⟩)] w fun e w' => ∃ gs, e = .returned (.slice (some ⟨gs, 0, none⟩) (40 + m.length % 64) (40 + m.length % 64)) ∧ w.heap.size ≤ gs ∧ Blk w' gs 5 (u8s (sv h n0 m)) ∧ Below w.heap.size w w' := by
  have HOL := hide (ov_length h m hh (bk m))
  have HG := hide hg
  have HMB := hide hmb
  have HTL := hide (tl_length m)
  have ESV : Hid (spl (spl (spl (u8s (zer (40 + m.length % 64))) (u8s (wb (ov h m (bk m)))) 0) (u8s (be ((n0 + m.length : Nat) : Int) 8)) 32) (u8s (tl m)) 40 = u8s (sv h n0 m)) := hide (sv_spl _ _ _ _ (by rw [wb_length, HOL.out]) (be_length _ _) HTL.out)
  have hr : m.length % 64 < 64 := by omega
  have hNm : (n0 + m.length) % 64 = m.length % 64 := by omega
  have c9 : w.cell? ⟨g, 9, none⟩ = some (.int .i64 ((n0 + m.length : Nat) : Int)) := by rw [hg.cell]; exact stC_size _ _ _ _ HOL.out
  clear hg hmb
  generalize hN : n0 + m.length = N at *
  generalize hrr : m.length % 64 = r at *
  have QN := hide hN
  have Qr := hide hrr
  have QNm := hide hNm
  have htm : (N : Int).tmod 64 = (r : Int) := by rw [Int.tmod_eq_emod_of_nonneg (by omega)]; omega
  have hte : (N : Int) % 64 = (r : Int) := by omega
  clear hN hrr hNm
  go_enter Tryd.func16, Tryd.ntmps16
  go_wp2_with (first | (go_at_call 38; refine (made_yes _ _ _ _ _ HG.out).mono ?_; rintro e w' ⟨rfl, rfl⟩) | (refine step_make (40 + r) rfl rfl rfl (by omega) (by omega) (by omega) ?_))
  intro w1 gs hg1 hle1 hb1
  have G1 := hide (HG.out.below hb1 HG.out.lt)
  have O1 := hide hg1
  clear hg1
  go_wp2_with (first | (refine step_load wW rfl (g := g) (off := 1) rfl G1.out (u32s (ov h m (bk m))) (by rw [u32s_length]; exact HOL.out) (stC_words _ _ _ _ HOL.out) ?_) | (go_at_call 41; refine (wordsBytes_any _ _ HOL.out).mono ?_; rintro e w2 ⟨rfl, hb2⟩) | (refine step_alloc zD0 rfl ?_))
  intro w3 g3 hg3 hle3 hb3
  have HWB := hide (show (wb (ov h m (bk m))).length = 32 by rw [wb_length, HOL.out])
  go_wp2_with (refine step_storeA wD0 rfl rfl rfl hg3 (by rw [u8s_length]; exact HWB.out) (One.u8 _) rfl ?_)
  intro w4 hg4 hbut4
  have hb14 : Below w1.heap.size w1 w4 := hb2.trans ((hb3.mono hb2.size).trans (hbut4.below (Nat.le_trans hb2.size hle3)))
  have G4 := hide (G1.out.below hb14 G1.out.lt)
  have O4 := hide (O1.out.below hb14 O1.out.lt)
  have HB4 := hide (hb1.trans (hb14.mono hb1.size))
  have ngs : g ≠ gs := by have := HG.out.lt; omega
  have n3 : g3 ≠ gs := by have := O1.out.lt; have := hb2.size; omega
  have S4 := hide (hg4.sl0 (wb_isB _) (by rw [HWB.out]; omega))
  rw [HWB.out] at S4
  have hsA : ∀ v : World, (Instr.sliceAt 45 (.pointer (some ⟨g3, 0, none⟩)) none none none).run Tryd.prog v = .ok (.slice (some ⟨g3, 0, none⟩) 32 32) v := fun v => by kernel_rfl
  clear hg3 hg4 hb2 hb3 hbut4 hb14 hle3 G1 O1 c9
  go_wp2_with (refine step_copy rfl rfl rfl S4.out gs 0 32 (by omega) O4.out (fun _ => rfl) (by rw [u8s_length, zer_length]; omega) ?_)
  intro w5 hg5 hbut5
  rw [List.take_of_length_le (by rw [HWB.out]; exact Nat.le_refl _)] at hg5
  have G5 := hide (G4.out.but hbut5 ngs)
  have O5 := hide hg5
  have HB5 := hide (HB4.out.trans (hbut5.below hle1))
  have L5 := hide (show (spl (u8s (zer (40 + r))) (u8s (wb (ov h m (bk m)))) 0).length = 40 + r by rw [spl_length _ _ _ (by rw [u8s_length, u8s_length, HWB.out, zer_length]; omega), u8s_length, zer_length])
  have d9 : w5.cell? ⟨g, 9, none⟩ = some (.int .i64 (N : Int)) := by rw [G5.out.cell, stM, QN.out]; exact stC_size _ _ _ _ HOL.out
  clear hg5 hbut5 O4 G4 HB4 S4
  have x32 := slice_row gs (40 + r) 32 32 rfl (by omega)
  obtain ⟨a40, x40, h40⟩ := slice_rowE gs (40 + r) 40 40 rfl (by omega)
  rw [show 40 + r - 32 = 8 + r by omega] at x32
  rw [show 40 + r - 40 = r by omega] at x40 h40
  have hNw : (N : Int) % 18446744073709551616 = (N : Int) := by omega
  go_wp2_with fail
  simp only [Act.put, List.setIfInBounds_toArray, List.set_cons_zero, List.set_cons_succ]
  refine wp_region_noPanic ?_
  refine wp_region_held_drew (S := fun v : World => v.cell? ⟨g, 9, none⟩ = some (.int .i64 (N : Int))) (by kernel_rfl) d9 (fun hHeld => ?_)
  refine takeH 0 25 (.slice (some ⟨gs, 0, none⟩) (40 + r) (40 + r)) hHeld rfl rfl (by kernel_rfl) (by kernel_rfl) (by kernel_rfl) (fun _ _ _ h => h) (Or.inl ⟨by rfl, fun w _ => by go_simp⟩) ?_
  simp only [Act.put, List.setIfInBounds_toArray, List.set_cons_zero, List.set_cons_succ]
  refine takeH 1 26 (.slice (some ⟨gs, 32, none⟩) (8 + r) (8 + r)) hHeld rfl rfl (by kernel_rfl) (by kernel_rfl) (by kernel_rfl) (fun _ _ _ h => h) (Or.inl ⟨by rfl, fun w _ => by go_simp⟩) ?_
  simp only [Act.put, List.setIfInBounds_toArray, List.set_cons_zero, List.set_cons_succ]
  refine takeH 2 27 (.pointer (some ⟨g, 0, none⟩)) hHeld rfl rfl (by kernel_rfl) (by kernel_rfl) (by kernel_rfl) (fun _ _ _ h => h) (Or.inl ⟨by rfl, fun w _ => by go_simp⟩) ?_
  simp only [Act.put, List.setIfInBounds_toArray, List.set_cons_zero, List.set_cons_succ]
  refine takeH 3 28 (.pointer (some ⟨g, 0, none⟩)) hHeld rfl rfl (by kernel_rfl) (by kernel_rfl) (by kernel_rfl) (fun _ _ _ h => h) (Or.inl ⟨by rfl, fun w _ => by go_simp⟩) ?_
  simp only [Act.put, List.setIfInBounds_toArray, List.set_cons_zero, List.set_cons_succ]
  refine takeH 4 29 (.pointer (some ⟨g, 9, none⟩)) hHeld rfl rfl (by kernel_rfl) (by kernel_rfl) (by kernel_rfl) (fun _ _ _ h => h) (Or.inl ⟨by rfl, fun w _ => by go_simp⟩) ?_
  simp only [Act.put, List.setIfInBounds_toArray, List.set_cons_zero, List.set_cons_succ]
  refine takeH 5 30 (.int .i64 (N : Int)) hHeld rfl rfl (by kernel_rfl) (by kernel_rfl) (by kernel_rfl) (fun _ _ _ h => h) (Or.inl ⟨by rfl, fun w hw => by have hw' : w.cell? ⟨g, 9, none⟩ = some (.int .i64 (N : Int)) := hw; go_simp⟩) ?_
  simp only [Act.put, List.setIfInBounds_toArray, List.set_cons_zero, List.set_cons_succ]
  refine takeH 6 31 (.int .u64 (N : Int)) hHeld rfl rfl (by kernel_rfl) (by kernel_rfl) (by kernel_rfl) (fun _ _ _ h => h) (Or.inl ⟨by rfl, fun w _ => by go_simp; rw [IntKind.wrap_u64]; omega⟩) ?_
  simp only [Act.put, List.setIfInBounds_toArray, List.set_cons_zero, List.set_cons_succ]
  refine wpAnyH_ready (rs := [7]) (by kernel_rfl) (by simp) (AllReadyH.cons rfl (fun K hK => ?_) AllReadyH.nil)
  rw [if_pos (by rfl)]
  go_simp
  refine (putLength_any gs 32 (8 + r) (8 + r) 5 (spl (u8s (zer (40 + r))) (u8s (wb (ov h m (bk m)))) 0) (N : Int) w5.drew O5.out (by omega) (by rw [L5.out]; omega) (by omega) (by omega)).mono ?_
  rintro e w6 ⟨rfl, hg6, hbut6⟩
  refine hK.out _ _ ((World.cell?_of_block (w := w5.drew) (hbut6.block g ngs)).trans d9) (fun hHeld => ?_)
  clear hK K
  refine wpAnyH_done (by kernel_rfl) ?_ _
  refine NoPanic.normal ?_
  have G6 := hide ((show Blk w5.drew g 65 (stM h n0 m) from G5.out).but hbut6 ngs)
  have O6 := hide hg6
  have HB6 := hide ((below_drewN HB5.out 1).trans (hbut6.below hle1))
  have L6 := hide (show (spl (spl (u8s (zer (40 + r))) (u8s (wb (ov h m (bk m)))) 0) (u8s (be (N : Int) 8)) 32).length = 40 + r by rw [spl_length _ _ _ (by rw [u8s_length, be_length, L5.out]; omega), L5.out])
  have EDR : Hid (((stM h n0 m).drop 10).take r = u8s (tl m)) := hide (by
    obtain ⟨hd, hl, e⟩ := stC_ten true (ov h m (bk m)) ((n0 + m.length : Nat) : Int) HOL.out
    rw [stM, e, ← hl, List.drop_left, rs, u8s_app, List.take_append_of_le_length (by rw [u8s_length, HTL.out]; exact Nat.le_refl _), List.take_of_length_le (by rw [u8s_length, HTL.out]; exact Nat.le_refl _)])
  have S6 : Hid (Sl w6 (some ⟨g, 10, none⟩) r 64 (tl m)) := hide (by
    have := G6.out.sl 10 64 (tl m) (by rw [HTL.out]; exact EDR.out) (HMB.out.drop _) (by rw [HTL.out]; omega) (by rw [HTL.out]; omega) (by omega)
    rwa [HTL.out] at this)
  have S6d := hide (S6.out.drewN 1)
  have hsr : ∀ v : World, (Instr.sliceAt 63 (.pointer (some ⟨g, 10, none⟩)) none (some (.int .i64 (r : Int))) none).run Tryd.prog v = .ok (.slice (some ⟨g, 10, none⟩) r 64) v := fun v => by
    rw [run_sliceAt_array_h v _ _ undB64 .i64 r (by omega) (by rw [lenB64]; omega), elemB64, sizeB, lenB64]
    simp [slicedAt, Addr.add_lit]
  clear hHeld hg6 hbut6 O5 G5 HB5 d9
  go_wp2_with fail
  refine wp_region_noPanic ?_
  refine wp_region_held_drew (S := fun _ : World => True) (by kernel_rfl) trivial (fun hHeld => ?_)
  refine takeH 0 33 (.slice (some ⟨gs, 0, none⟩) (40 + r) (40 + r)) hHeld rfl rfl (by kernel_rfl) (by kernel_rfl) (by kernel_rfl) (fun _ _ _ h => h) (Or.inl ⟨by rfl, fun w _ => by go_simp⟩) ?_
  simp only [Act.put, List.setIfInBounds_toArray, List.set_cons_zero, List.set_cons_succ]
  refine takeH 1 34 (.slice a40 r r) hHeld rfl rfl (by kernel_rfl) (by kernel_rfl) (by kernel_rfl) (fun _ _ _ h => h) (Or.inl ⟨by rfl, fun w _ => by go_simp⟩) ?_
  simp only [Act.put, List.setIfInBounds_toArray, List.set_cons_zero, List.set_cons_succ]
  refine takeH 2 35 (.pointer (some ⟨g, 0, none⟩)) hHeld rfl rfl (by kernel_rfl) (by kernel_rfl) (by kernel_rfl) (fun _ _ _ h => h) (Or.inl ⟨by rfl, fun w _ => by go_simp⟩) ?_
  simp only [Act.put, List.setIfInBounds_toArray, List.set_cons_zero, List.set_cons_succ]
  refine takeH 3 36 (.pointer (some ⟨g, 0, none⟩)) hHeld rfl rfl (by kernel_rfl) (by kernel_rfl) (by kernel_rfl) (fun _ _ _ h => h) (Or.inl ⟨by rfl, fun w _ => by go_simp⟩) ?_
  simp only [Act.put, List.setIfInBounds_toArray, List.set_cons_zero, List.set_cons_succ]
  refine takeH 4 37 (.pointer (some ⟨g, 10, none⟩)) hHeld rfl rfl (by kernel_rfl) (by kernel_rfl) (by kernel_rfl) (fun _ _ _ h => h) (Or.inl ⟨by rfl, fun w _ => by go_simp⟩) ?_
  simp only [Act.put, List.setIfInBounds_toArray, List.set_cons_zero, List.set_cons_succ]
  refine takeH 5 38 (.int .i64 (r : Int)) hHeld rfl rfl (by kernel_rfl) (by kernel_rfl) (by kernel_rfl) (fun _ _ _ h => h) (Or.inl ⟨by rfl, fun w _ => by go_simp⟩) ?_
  simp only [Act.put, List.setIfInBounds_toArray, List.set_cons_zero, List.set_cons_succ]
  refine takeH 6 39 (.slice (some ⟨g, 10, none⟩) r 64) hHeld rfl rfl (by kernel_rfl) (by kernel_rfl) (by kernel_rfl) (fun _ _ _ h => h) (Or.inl ⟨by rfl, fun w _ => by go_simp⟩) ?_
  simp only [Act.put, List.setIfInBounds_toArray, List.set_cons_zero, List.set_cons_succ]
  refine wpAnyH_ready (rs := [7]) (by kernel_rfl) (by simp) (AllReadyH.cons rfl (fun K hK => ?_) AllReadyH.nil)
  rw [if_pos (by rfl)]
  refine wp_copyB rfl rfl rfl S6d.out gs 40 r (by omega) (show Blk w6.drew gs 5 _ from O6.out) h40 (by rw [L6.out]; exact Nat.le_refl _) ?_
  intro w7 hg7 hbut7
  refine hK.out _ _ trivial (fun hHeld => ?_)
  clear hK K
  refine wpAnyH_done (by kernel_rfl) ?_ _
  refine NoPanic.normal ?_
  rw [List.take_of_length_le (by rw [HTL.out]; exact Nat.le_refl _), ESV.out] at hg7
  go_wp2
  go_ret
  exact ⟨gs, rfl, hle1, hg7, (below_drewN HB6.out 1).trans (hbut7.below hle1)⟩

end Go.Proofs.YtefaabmkcgdkiaaDoor
