/-
  The walk of HashBlocks.
-/
import Derived.Test.YtbankdepjpeniaaDoorBr
namespace Go.Proofs.YtbankdepjpeniaaDoor
open Go.RowKit
set_option linter.unusedVariables false

/-- What stays through the walk. -/
structure SB (w0 : World) (h blk : List Int) (g1 g2 : Nat) (v : World) : Prop where
  b1 : Blk v g1 29 (u32s h)
  b2 : Blk v g2 30 (u8s blk)
  kt : KT v
  bel : Below w0.heap.size w0 v
theorem SB.below {w0 : World} {h blk : List Int} {g1 g2 : Nat} {v v' : World} (s : SB w0 h blk g1 g2 v) (hb : Below v.heap.size v v') : SB w0 h blk g1 g2 v' :=
  ⟨s.b1.below hb s.b1.lt, s.b2.below hb s.b2.lt, s.kt.below hb s.kt.lt, s.bel.trans (hb.mono s.bel.size)⟩
theorem SB.all {w0 : World} {h blk : List Int} {g1 g2 : Nat} {v : World} (s : SB w0 h blk g1 g2 v) : SB w0 h blk g1 g2 v ∧ v.rangeAt g1 0 (u32s h) ∧ v.rangeAt g2 0 (u8s blk) :=
  ⟨s, s.b1.range 0 _ (by simp), s.b2.range 0 _ (by simp)⟩
theorem SB.two {w0 : World} {h blk : List Int} {g1 g2 : Nat} {v : World} (s : SB w0 h blk g1 g2 v) : v.rangeAt g1 0 (u32s h) ∧ v.rangeAt g2 0 (u8s blk) := s.all.2
theorem SB.drew {w0 : World} {h blk : List Int} {g1 g2 : Nat} {v : World} (s : SB w0 h blk g1 g2 v) : SB w0 h blk g1 g2 v.drew := s.below ⟨rfl, rfl, rfl, Nat.le_refl _, fun _ _ => rfl⟩
set_option maxRecDepth 100000 in
set_option maxHeartbeats 2000000 in
theorem blocks_walk (h blk : List Int) (w : World) (hh : h.length = 8) (hhb : ∀ x ∈ h, (Lit.int .u32 x).wf = true) (hl : blk.length = 64) (hbb : ∀ x ∈ blk, (Lit.int .u8 x).wf = true) (hk : KT w) :
    Calls Tryd.prog 4 #[.agg (u32s h).toArray, .agg (u8s blk).toArray] w fun e w' => e = .returned (.bool true) ∧ Below w.heap.size w w' := by
  have HB := hide (show isB blk from fun x hx => bounds_u8 (hbb x hx))
  have HL := hide hl
  have HH := hide hh
  have HK := hide hk
  clear hl hh hk hbb hhb
  go_enter Tryd.func4, Tryd.ntmps4
  go_wp2_with (refine step_box rfl rfl ?_)
  intro w1 g1 hg1 hle1 hb1
  go_wp2_with (refine step_box rfl rfl ?_)
  intro w2 g2 hg2 hle2 hb2
  have hw2 : Below w.heap.size w w2 := hb1.trans (hb2.mono hb1.size)
  have hS : SB w h blk g1 g2 w2 := ⟨hg1.below hb2 hg1.lt, hg2, HK.out.below hw2 HK.out.lt, hw2⟩
  have hu1 := aW8.und
  have hu2 := aB64.und
  have hi1 : (Tryd.prog.info? 29).map (·.size) = some (u32s h).length := by rw [wW.size, u32s_length, HH.out]
  have hi2 : (Tryd.prog.info? 30).map (·.size) = some (u8s blk).length := by rw [wB64.size, u8s_length, HL.out]
  clear hg1 hg2 hb1 hb2 hle1 hle2 hw2
  go_wp2_with fail
  refine wp_region_noPanic ?_
  have S0 := hide hS.drew
  clear hS
  refine wp_region_held_drew (S := fun v : World => v.rangeAt g1 0 (u32s h) ∧ v.rangeAt g2 0 (u8s blk)) (by kernel_rfl) S0.out.two (fun hHeld => ?_)
  refine wpAnyH_ready (rs := [0]) (by kernel_rfl) (by simp) (AllReadyH.cons rfl (fun K hK => ?_) AllReadyH.nil)
  rw [if_pos (by rfl)]
  go_simp
  refine (begin_any _).mono ?_
  rintro e v1 ⟨rfl, hv1⟩
  have S1 := hide (S0.out.below hv1)
  refine hK.out _ _ S1.out.two (fun hHeld => ?_)
  clear hK K hv1 S0
  refine wpAnyH_ready (rs := [1]) (by kernel_rfl) (by simp) (AllReadyH.cons rfl (fun K hK => ?_) AllReadyH.nil)
  rw [if_pos (by rfl)]
  go_simp
  refine (beginR_any _).mono ?_
  rintro e v2 ⟨rfl, hv2⟩
  have S2 := hide (S1.out.below hv2)
  refine hK.out _ _ S2.out.two (fun hHeld => ?_)
  clear hK K hv2 S1
  refine takeH 2 7 (.bool true) hHeld rfl rfl (by kernel_rfl) (by kernel_rfl) (by kernel_rfl) (fun _ _ _ h => h) (Or.inl ⟨by rfl, fun v _ => run_eqT aW8 _ rfl rfl rfl⟩) ?_
  simp only [Act.put, List.setIfInBounds_toArray, List.set_cons_zero, List.set_cons_succ]
  refine takeH 3 8 (.bool true) hHeld rfl rfl (by kernel_rfl) (by kernel_rfl) (by kernel_rfl) (fun _ _ _ h => h) (Or.inl ⟨by rfl, fun w _ => by go_simp⟩) ?_
  simp only [Act.put, List.setIfInBounds_toArray, List.set_cons_zero, List.set_cons_succ]
  refine takeH 4 9 (.agg (u8s blk).toArray) hHeld rfl rfl (by kernel_rfl) (by kernel_rfl) (by kernel_rfl) (fun _ _ _ h => h) (yieldsIf_load_mid (by rfl) _ _ rfl g2 0 rfl _ _ (fun w h => h.2) hu2 rfl hi2) ?_
  simp only [Act.put, List.setIfInBounds_toArray, List.set_cons_zero, List.set_cons_succ]
  refine takeH 6 11 (.agg (u8s blk).toArray) hHeld rfl rfl (by kernel_rfl) (by kernel_rfl) (by kernel_rfl) (fun _ _ _ h => h) (yieldsIf_load_mid (by rfl) _ _ rfl g2 0 rfl _ _ (fun w h => h.2) hu2 rfl hi2) ?_
  simp only [Act.put, List.setIfInBounds_toArray, List.set_cons_zero, List.set_cons_succ]
  refine wpAnyH_ready (rs := [5]) (by kernel_rfl) (by simp) (AllReadyH.cons rfl (fun K hK => ?_) AllReadyH.nil)
  rw [if_pos (by rfl)]
  go_simp
  refine (sched_any _ _ HB.out HL.out).mono ?_
  rintro e v3 ⟨rfl, hv3⟩
  have S3 := hide (S2.out.below hv3)
  refine hK.out _ _ S3.out.two (fun hHeld => ?_)
  clear hK K hv3 S2
  refine wpAnyH_ready (rs := [7]) (by kernel_rfl) (by simp) (AllReadyH.cons rfl (fun K hK => ?_) AllReadyH.nil)
  rw [if_pos (by rfl)]
  go_simp
  refine (schedR_any _ _ HB.out HL.out).mono ?_
  rintro e v4 ⟨rfl, hv4⟩
  have S4 := hide (S3.out.below hv4)
  refine hK.out _ _ S4.out.two (fun hHeld => ?_)
  clear hK K hv4 S3
  refine takeH 8 13 (.bool true) hHeld rfl rfl (by kernel_rfl) (by kernel_rfl) (by kernel_rfl) (fun _ _ _ h => h) (Or.inl ⟨by rfl, fun v _ => run_eqT aK _ rfl rfl (sched_length blk)⟩) ?_
  simp only [Act.put, List.setIfInBounds_toArray, List.set_cons_zero, List.set_cons_succ]
  refine takeH 9 14 (.bool true) hHeld rfl rfl (by kernel_rfl) (by kernel_rfl) (by kernel_rfl) (fun _ _ _ h => h) (Or.inl ⟨by rfl, fun w _ => by go_simp⟩) ?_
  simp only [Act.put, List.setIfInBounds_toArray, List.set_cons_zero, List.set_cons_succ]
  refine takeH 10 15 (.bool true) hHeld rfl rfl (by kernel_rfl) (by kernel_rfl) (by kernel_rfl) (fun _ _ _ h => h) (Or.inl ⟨by rfl, fun w _ => by go_simp⟩) ?_
  simp only [Act.put, List.setIfInBounds_toArray, List.set_cons_zero, List.set_cons_succ]
  refine takeH 11 16 (.agg (u32s h).toArray) hHeld rfl rfl (by kernel_rfl) (by kernel_rfl) (by kernel_rfl) (fun _ _ _ h => h) (yieldsIf_load_mid (by rfl) _ _ rfl g1 0 rfl _ _ (fun w h => h.1) hu1 rfl hi1) ?_
  simp only [Act.put, List.setIfInBounds_toArray, List.set_cons_zero, List.set_cons_succ]
  refine takeH 12 17 (.agg (u8s blk).toArray) hHeld rfl rfl (by kernel_rfl) (by kernel_rfl) (by kernel_rfl) (fun _ _ _ h => h) (yieldsIf_load_mid (by rfl) _ _ rfl g2 0 rfl _ _ (fun w h => h.2) hu2 rfl hi2) ?_
  simp only [Act.put, List.setIfInBounds_toArray, List.set_cons_zero, List.set_cons_succ]
  refine takeH 14 19 (.agg (u32s h).toArray) hHeld rfl rfl (by kernel_rfl) (by kernel_rfl) (by kernel_rfl) (fun _ _ _ h => h) (yieldsIf_load_mid (by rfl) _ _ rfl g1 0 rfl _ _ (fun w h => h.1) hu1 rfl hi1) ?_
  simp only [Act.put, List.setIfInBounds_toArray, List.set_cons_zero, List.set_cons_succ]
  refine takeH 15 20 (.agg (u8s blk).toArray) hHeld rfl rfl (by kernel_rfl) (by kernel_rfl) (by kernel_rfl) (fun _ _ _ h => h) (yieldsIf_load_mid (by rfl) _ _ rfl g2 0 rfl _ _ (fun w h => h.2) hu2 rfl hi2) ?_
  simp only [Act.put, List.setIfInBounds_toArray, List.set_cons_zero, List.set_cons_succ]
  refine wpAnyH_ready (rs := [13]) (by kernel_rfl) (by simp) (AllReadyH.cons rfl (fun K hK => ?_) AllReadyH.nil)
  rw [if_pos (by rfl)]
  go_simp
  refine (comp_any _ _ _ HH.out HB.out HL.out S4.out.kt).mono ?_
  rintro e v5 ⟨rfl, hv5⟩
  have S5 := hide (S4.out.below hv5)
  refine hK.out _ _ S5.out.two (fun hHeld => ?_)
  clear hK K hv5 S4
  refine wpAnyH_ready (rs := [16]) (by kernel_rfl) (by simp) (AllReadyH.cons rfl (fun K hK => ?_) AllReadyH.nil)
  rw [if_pos (by rfl)]
  go_simp
  refine (compR_any _ _ _ HH.out HB.out HL.out).mono ?_
  rintro e v6 ⟨rfl, hv6⟩
  have S6 := hide (S5.out.below hv6)
  refine hK.out _ _ S6.out.two (fun hHeld => ?_)
  clear hK K hv6 S5
  refine takeH 17 22 (.bool true) hHeld rfl rfl (by kernel_rfl) (by kernel_rfl) (by kernel_rfl) (fun _ _ _ h => h) (Or.inl ⟨by rfl, fun v _ => run_eqT aW8 _ rfl rfl (comp_length h blk HH.out)⟩) ?_
  simp only [Act.put, List.setIfInBounds_toArray, List.set_cons_zero, List.set_cons_succ]
  refine takeH 18 23 (.bool true) hHeld rfl rfl (by kernel_rfl) (by kernel_rfl) (by kernel_rfl) (fun _ _ _ h => h) (Or.inl ⟨by rfl, fun w _ => by go_simp⟩) ?_
  simp only [Act.put, List.setIfInBounds_toArray, List.set_cons_zero, List.set_cons_succ]
  refine takeH 19 4 (.bool true) hHeld rfl rfl (by kernel_rfl) (by kernel_rfl) (by kernel_rfl) (fun _ _ _ h => h) (Or.inl ⟨by rfl, fun w _ => by go_simp⟩) ?_
  simp only [Act.put, List.setIfInBounds_toArray, List.set_cons_zero, List.set_cons_succ]
  refine wpAnyH_done (by kernel_rfl) ?_ _
  refine NoPanic.normal ?_
  clear hHeld hu1 hu2 hi1 hi2
  go_wp2
  go_ret
  exact ⟨rfl, S6.out.bel⟩

end Go.Proofs.YtbankdepjpeniaaDoor
