/-
  The walk of MacSame.
-/
import Derived.Test.YtefaabmkcgdkiabSa
import Derived.Test.YtefaabmkcgdkiabFrA
namespace Go.Proofs.Ytefaabmkcgdkiab
open Go.RowKit
set_option linter.unusedVariables false

/-- What stays through the walk. -/
structure SB (w0 : World) (xs ys : List Int) (g1 g2 : Nat) (v : World) : Prop where
  b1 : Blk v g1 23 (u8s xs)
  b2 : Blk v g2 23 (u8s ys)
  bel : Below w0.heap.size w0 v
theorem SB.below {w0 : World} {xs ys : List Int} {g1 g2 : Nat} {v v' : World} (s : SB w0 xs ys g1 g2 v) (hb : Below v.heap.size v v') : SB w0 xs ys g1 g2 v' :=
  ⟨s.b1.below hb s.b1.lt, s.b2.below hb s.b2.lt, s.bel.trans (hb.mono s.bel.size)⟩
theorem SB.two {w0 : World} {xs ys : List Int} {g1 g2 : Nat} {v : World} (s : SB w0 xs ys g1 g2 v) : v.rangeAt g1 0 (u8s xs) ∧ v.rangeAt g2 0 (u8s ys) :=
  ⟨s.b1.range 0 _ (by simp), s.b2.range 0 _ (by simp)⟩
theorem SB.drew {w0 : World} {xs ys : List Int} {g1 g2 : Nat} {v : World} (s : SB w0 xs ys g1 g2 v) : SB w0 xs ys g1 g2 v.drew := s.below ⟨rfl, rfl, rfl, Nat.le_refl _, fun _ _ => rfl⟩

set_option maxRecDepth 100000 in
set_option maxHeartbeats 2000000 in
theorem same_walk (xs ys : List Int) (w : World) (hx : xs.length = 32) (hxw : ∀ x ∈ xs, (Lit.int .u8 x).wf = true) (hy : ys.length = 32) (hyw : ∀ x ∈ ys, (Lit.int .u8 x).wf = true) :
    Calls Try.prog 3 #[.agg (u8s xs).toArray, .agg (u8s ys).toArray] w fun e w' => e = .returned (.bool true) ∧ Below w.heap.size w w' := by
  have HX := hide hx
  have HY := hide hy
  have HXB := hide (show isB xs from fun x hx => bounds_u8 (hxw x hx))
  have HYB := hide (show isB ys from fun x hx => bounds_u8 (hyw x hx))
  clear hx hy hxw hyw
  go_enter Try.func3, Try.ntmps3
  go_wp2_with (refine step_box rfl rfl ?_)
  intro w1 g1 hg1 hle1 hb1
  go_wp2_with (refine step_box rfl rfl ?_)
  intro w2 g2 hg2 hle2 hb2
  have hS : SB w xs ys g1 g2 w2 := ⟨hg1.below hb2 hg1.lt, hg2, hb1.trans (hb2.mono hb1.size)⟩
  have hu := aD.und
  have hi1 : (Try.prog.info? 23).map (·.size) = some (u8s xs).length := by rw [wD.size, u8s_length, HX.out]
  have hi2 : (Try.prog.info? 23).map (·.size) = some (u8s ys).length := by rw [wD.size, u8s_length, HY.out]
  clear hg1 hg2 hb1 hb2 hle1 hle2
  go_wp2_with fail
  refine wp_region_noPanic ?_
  have S0 := hide hS.drew
  clear hS
  refine wp_region_held_drew (S := fun v : World => v.rangeAt g1 0 (u8s xs) ∧ v.rangeAt g2 0 (u8s ys)) (by kernel_rfl) S0.out.two (fun hHeld => ?_)
  refine takeH 0 5 (.agg (u8s xs).toArray) hHeld rfl rfl (by kernel_rfl) (by kernel_rfl) (by kernel_rfl) (fun _ _ _ h => h) (yieldsIf_load_mid (by rfl) _ _ rfl g1 0 rfl _ _ (fun w h => h.1) hu rfl hi1) ?_
  simp only [Act.put, List.setIfInBounds_toArray, List.set_cons_zero, List.set_cons_succ]
  refine takeH 1 6 (.agg (u8s ys).toArray) hHeld rfl rfl (by kernel_rfl) (by kernel_rfl) (by kernel_rfl) (fun _ _ _ h => h) (yieldsIf_load_mid (by rfl) _ _ rfl g2 0 rfl _ _ (fun w h => h.2) hu rfl hi2) ?_
  simp only [Act.put, List.setIfInBounds_toArray, List.set_cons_zero, List.set_cons_succ]
  refine takeH 3 8 (.agg (u8s xs).toArray) hHeld rfl rfl (by kernel_rfl) (by kernel_rfl) (by kernel_rfl) (fun _ _ _ h => h) (yieldsIf_load_mid (by rfl) _ _ rfl g1 0 rfl _ _ (fun w h => h.1) hu rfl hi1) ?_
  simp only [Act.put, List.setIfInBounds_toArray, List.set_cons_zero, List.set_cons_succ]
  refine takeH 4 9 (.agg (u8s ys).toArray) hHeld rfl rfl (by kernel_rfl) (by kernel_rfl) (by kernel_rfl) (fun _ _ _ h => h) (yieldsIf_load_mid (by rfl) _ _ rfl g2 0 rfl _ _ (fun w h => h.2) hu rfl hi2) ?_
  simp only [Act.put, List.setIfInBounds_toArray, List.set_cons_zero, List.set_cons_succ]
  refine takeH 5 10 (.bool (decide (xs = ys))) hHeld rfl rfl (by kernel_rfl) (by kernel_rfl) (by kernel_rfl) (fun _ _ _ h => h) (Or.inl ⟨by rfl, fun v _ => run_eqA aD _ rfl rfl HX.out HY.out⟩) ?_
  simp only [Act.put, List.setIfInBounds_toArray, List.set_cons_zero, List.set_cons_succ]
  refine wpAnyH_ready (rs := [2]) (by kernel_rfl) (by simp) (AllReadyH.cons rfl (fun K hK => ?_) AllReadyH.nil)
  rw [if_pos (by rfl)]
  go_simp
  refine (same_any xs ys _ HX.out HY.out HXB.out HYB.out).mono ?_
  rintro e v1 ⟨rfl, hv1⟩
  have S1 := hide (S0.out.below hv1)
  refine hK.out _ _ (S1.out.two) (fun hHeld => ?_)
  clear hK K
  clear hv1 S0
  generalize decide (xs = ys) = b
  refine takeH 6 11 (.bool true) hHeld rfl rfl (by kernel_rfl) (by kernel_rfl) (by kernel_rfl) (fun _ _ _ h => h) (Or.inl ⟨by rfl, fun w _ => by cases b <;> go_simp⟩) ?_
  simp only [Act.put, List.setIfInBounds_toArray, List.set_cons_zero, List.set_cons_succ]
  refine takeH 7 12 (.bool true) hHeld rfl rfl (by kernel_rfl) (by kernel_rfl) (by kernel_rfl) (fun _ _ _ h => h) (Or.inl ⟨by rfl, fun w _ => by go_simp⟩) ?_
  simp only [Act.put, List.setIfInBounds_toArray, List.set_cons_zero, List.set_cons_succ]
  refine takeH 8 13 (.agg (u8s xs).toArray) hHeld rfl rfl (by kernel_rfl) (by kernel_rfl) (by kernel_rfl) (fun _ _ _ h => h) (yieldsIf_load_mid (by rfl) _ _ rfl g1 0 rfl _ _ (fun w h => h.1) hu rfl hi1) ?_
  simp only [Act.put, List.setIfInBounds_toArray, List.set_cons_zero, List.set_cons_succ]
  refine takeH 9 14 (.agg (u8s xs).toArray) hHeld rfl rfl (by kernel_rfl) (by kernel_rfl) (by kernel_rfl) (fun _ _ _ h => h) (yieldsIf_load_mid (by rfl) _ _ rfl g1 0 rfl _ _ (fun w h => h.1) hu rfl hi1) ?_
  simp only [Act.put, List.setIfInBounds_toArray, List.set_cons_zero, List.set_cons_succ]
  refine wpAnyH_ready (rs := [10]) (by kernel_rfl) (by simp) (AllReadyH.cons rfl (fun K hK => ?_) AllReadyH.nil)
  rw [if_pos (by rfl)]
  go_simp
  refine (same_any xs xs _ HX.out HX.out HXB.out HXB.out).mono ?_
  rintro e v2 ⟨rfl, hv2⟩
  have S2 := hide (S1.out.below hv2)
  refine hK.out _ _ (S2.out.two) (fun hHeld => ?_)
  clear hK K
  clear hv2 S1
  have ht : decide (xs = xs) = true := by simp
  rw [ht]
  refine takeH 11 16 (.bool true) hHeld rfl rfl (by kernel_rfl) (by kernel_rfl) (by kernel_rfl) (fun _ _ _ h => h) (Or.inl ⟨by rfl, fun w _ => by go_simp⟩) ?_
  simp only [Act.put, List.setIfInBounds_toArray, List.set_cons_zero, List.set_cons_succ]
  refine takeH 12 4 (.bool true) hHeld rfl rfl (by kernel_rfl) (by kernel_rfl) (by kernel_rfl) (fun _ _ _ h => h) (Or.inl ⟨by rfl, fun w _ => by go_simp⟩) ?_
  simp only [Act.put, List.setIfInBounds_toArray, List.set_cons_zero, List.set_cons_succ]
  refine wpAnyH_done (by kernel_rfl) ?_ _
  refine NoPanic.normal ?_
  clear hHeld hu hi1 hi2
  go_wp2
  go_ret
  exact ⟨rfl, S2.out.bel⟩

end Go.Proofs.Ytefaabmkcgdkiab
