/-
  The walk of VerifyPaths.
-/
import Derived.Test.YtdggooanpamoeaaDoorVk
namespace Go.Proofs.YtdggooanpamoeaaDoor
open Go.RowKit
set_option linter.unusedVariables false

/-- The cells of what is asked. -/
def ak (i n : Int) (a : Option Addr) (l cap : Nat) : List Value := [.int .i64 i, .int .i64 n, .slice a l cap]
theorem Blk.three {w : World} {g : Nat} {t : TypeId} {i n : Int} {a : Option Addr} {l cap : Nat} (h : Blk w g t (ak i n a l cap)) : w.cell? ⟨g, 0, none⟩ = some (.int .i64 i) ∧ w.cell? ⟨g, 1, none⟩ = some (.int .i64 n) ∧ w.cell? ⟨g, 2, none⟩ = some (.slice a l cap) := ⟨by rw [h.cell]; rfl, by rw [h.cell]; rfl, by rw [h.cell]; rfl⟩
set_option maxRecDepth 100000 in
set_option maxHeartbeats 2000000 in
theorem paths_walk (i n : Int) (a : Option Addr) (l cap : Nat) (xs leaf root : List Int) (w : World) (hs : Ds w a l cap xs) (hll : leaf.length = 32) (hlb : isB leaf) (hrl : root.length = 32) (hrb : isB root) (hk : KT w) :
    Calls Tryd.prog 3 #[.agg #[.int .i64 i, .int .i64 n, .slice a l cap], .agg (u8s leaf).toArray, .agg (u8s root).toArray] w fun e w' => e = .returned (.bool true) ∧ Below w.heap.size w w' := by
  obtain ⟨D, E, hB⟩ := root_both leaf i n l xs hll hlb
  have HB := hide hB
  have HS := hide hs
  have HK := hide hk
  have HLN := hide hll
  have HRN := hide hrl
  have HDN := hide hB.len
  have HLU := hide (show (u8s leaf).length = 32 by rw [u8s_length, hll])
  have HRU := hide (show (u8s root).length = 32 by rw [u8s_length, hrl])
  have HDU := hide (show (u8s D).length = 32 by rw [u8s_length, hB.len])
  clear hB hs hk hll hlb hrl hrb
  go_enter Tryd.func3, Tryd.ntmps3
  go_wp2_with (refine step_box (cs := ak i n a l cap) rfl rfl ?_)
  intro w1 g3 hr1 hl1 hb1
  have G3 := hide hr1
  clear hr1
  go_wp2_with (refine step_box rfl rfl ?_)
  intro w2 g4 hr2 hl2 hb2
  have G4 := hide hr2
  have G32 := hide (G3.out.on hb2)
  have B2 := hide (on_below hb1 hb2)
  clear hr2 hb1 hb2 G3
  go_wp2_with (refine step_box rfl rfl ?_)
  intro w3 g5 hr3 hl3 hb3
  have G5 := hide hr3
  have G43 := hide (G4.out.on hb3)
  have G33 := hide (G32.out.on hb3)
  have B3 := hide (on_below B2.out hb3)
  obtain ⟨c0, c1, c2'⟩ := G33.out.three
  clear hr3 hb3 G4 G32 B2
  go_wp2_with fail
  refine (lent_any a l cap xs _ (HS.out.below B3.out)).mono ?_
  rintro r w4 ⟨a', cap', rfl, hd4, hb4⟩
  have P4 := hide hd4
  have G54 := hide (G5.out.on hb4)
  have G44 := hide (G43.out.on hb4)
  have G34 := hide (G33.out.on hb4)
  have B4 := hide (on_below B3.out hb4)
  obtain ⟨d0, d1, d2⟩ := G34.out.three
  clear hd4 hb4 G5 G43 G33 B3 c0 c1 c2'
  go_wp2_with (refine step_loadA wD rfl rfl G44.out HLU.out ?_)
  refine (HB.out.prog a' cap' _ P4.out (HK.out.below B4.out HK.out.lt)).mono ?_
  rintro r w5 ⟨rfl, hb5⟩
  have P5 := hide (P4.out.below hb5)
  have G55 := hide (G54.out.on hb5)
  have G45 := hide (G44.out.on hb5)
  have G35 := hide (G34.out.on hb5)
  have B5 := hide (on_below B4.out hb5)
  clear hb5 P4 G54 G44 G34 B4 d0 d1 d2
  go_wp2_with (refine step_alloc zD rfl ?_)
  intro w6 g8 hr6 hl6 hb6
  have G8 := hide hr6
  clear hr6
  go_wp2_with (refine step_storeA wD rfl rfl rfl G8.out HDU.out (One.u8 _) rfl ?_)
  intro w7 hg7 hbut7
  have X7 := hide (hb6.trans (hbut7.below hl6))
  have G8 := hide hg7
  have P7 := hide (P5.out.below X7.out)
  have G57 := hide (G55.out.on X7.out)
  have G47 := hide (G45.out.on X7.out)
  have G37 := hide (G35.out.on X7.out)
  have B7 := hide (on_below B5.out X7.out)
  obtain ⟨c0, c1, c2'⟩ := G37.out.three
  clear hg7 hbut7 hb6 X7 P5 G55 G45 G35 B5
  go_wp2_with (refine step_loadA wD rfl rfl G47.out HLU.out ?_)
  refine (HB.out.doc a cap _ (HS.out.below B7.out)).mono ?_
  rintro r w8 ⟨rfl, hb8⟩
  have P8 := hide (P7.out.below hb8)
  have G88 := hide (G8.out.on hb8)
  have G58 := hide (G57.out.on hb8)
  have G48 := hide (G47.out.on hb8)
  have G38 := hide (G37.out.on hb8)
  have B8 := hide (on_below B7.out hb8)
  clear hb8 P7 G8 G57 G47 G37 B7 c0 c1 c2'
  go_wp2_with (refine step_alloc zD rfl ?_)
  intro w9 g10 hr9 hl9 hb9
  have G10 := hide hr9
  clear hr9
  go_wp2_with (refine step_storeA wD rfl rfl rfl G10.out HDU.out (One.u8 _) rfl ?_)
  intro u0 hg0 hbut0
  have X0 := hide (hb9.trans (hbut0.below hl9))
  have G10 := hide hg0
  have P0 := hide (P8.out.below X0.out)
  have G80 := hide (G88.out.on X0.out)
  have G50 := hide (G58.out.on X0.out)
  have G40 := hide (G48.out.on X0.out)
  have G30 := hide (G38.out.on X0.out)
  have B0 := hide (on_below B8.out X0.out)
  clear hg0 hbut0 hb9 X0 P8 G88 G58 G48 G38 B8
  have hu := aD.und
  have HI1 : Hid ((Tryd.prog.info? 26).map (·.size) = some (u8s leaf).length) := hide (by rw [wD.size, HLU.out])
  have HI2 : Hid ((Tryd.prog.info? 26).map (·.size) = some (u8s root).length) := hide (by rw [wD.size, HRU.out])
  go_wp2_with (first | (refine step_loadA wD rfl rfl G80.out HDU.out ?_) | (refine step_loadA wD rfl rfl G10.out HDU.out ?_) | (refine step_eqA aD rfl rfl rfl HDN.out HDN.out ?_))
  refine wp_region_noPanic ?_
  refine wp_region_held_drew (S := fun v : World => Below u0.heap.size u0 v) (by kernel_rfl) ((Below.refl _ _).drew) (fun hHeld => ?_)
  refine takeH 0 45 (.bool true) hHeld rfl rfl (by kernel_rfl) (by kernel_rfl) (by kernel_rfl) (fun _ _ _ h => h) (Or.inl ⟨by rfl, fun w _ => by go_simp⟩) ?_
  simp only [Act.put, List.setIfInBounds_toArray, List.set_cons_zero, List.set_cons_succ]
  refine takeH 1 46 (.bool true) hHeld rfl rfl (by kernel_rfl) (by kernel_rfl) (by kernel_rfl) (fun _ _ _ h => h) (Or.inl ⟨by rfl, fun w _ => by go_simp⟩) ?_
  simp only [Act.put, List.setIfInBounds_toArray, List.set_cons_zero, List.set_cons_succ]
  refine takeH 2 47 (.agg (u8s leaf).toArray) hHeld rfl rfl (by kernel_rfl) (by kernel_rfl) (by kernel_rfl) (fun _ _ _ h => h) (yieldsIf_load_mid (by rfl) _ _ rfl g4 0 rfl _ _ (fun w h => (G40.out.on h).range 0 _ (by simp)) hu rfl HI1.out) ?_
  simp only [Act.put, List.setIfInBounds_toArray, List.set_cons_zero, List.set_cons_succ]
  refine takeH 3 48 (.pointer (some ⟨g3, 0, none⟩)) hHeld rfl rfl (by kernel_rfl) (by kernel_rfl) (by kernel_rfl) (fun _ _ _ h => h) (Or.inl ⟨by rfl, fun w _ => by go_simp⟩) ?_
  simp only [Act.put, List.setIfInBounds_toArray, List.set_cons_zero, List.set_cons_succ]
  refine takeH 4 49 (.int .i64 i) hHeld rfl rfl (by kernel_rfl) (by kernel_rfl) (by kernel_rfl) (fun _ _ _ h => h) (Or.inl ⟨by rfl, fun w hw => by have hw' : w.cell? ⟨g3, 0, none⟩ = some (.int .i64 i) := (fun h => (G30.out.on h).three.1) hw; go_simp⟩) ?_
  simp only [Act.put, List.setIfInBounds_toArray, List.set_cons_zero, List.set_cons_succ]
  refine takeH 5 50 (.pointer (some ⟨g3, 1, none⟩)) hHeld rfl rfl (by kernel_rfl) (by kernel_rfl) (by kernel_rfl) (fun _ _ _ h => h) (Or.inl ⟨by rfl, fun w _ => by go_simp⟩) ?_
  simp only [Act.put, List.setIfInBounds_toArray, List.set_cons_zero, List.set_cons_succ]
  refine takeH 6 51 (.int .i64 n) hHeld rfl rfl (by kernel_rfl) (by kernel_rfl) (by kernel_rfl) (fun _ _ _ h => h) (Or.inl ⟨by rfl, fun w hw => by have hw' : w.cell? ⟨g3, 1, none⟩ = some (.int .i64 n) := (fun h => (G30.out.on h).three.2.1) hw; go_simp⟩) ?_
  simp only [Act.put, List.setIfInBounds_toArray, List.set_cons_zero, List.set_cons_succ]
  refine takeH 7 52 (.slice a' l cap') hHeld rfl rfl (by kernel_rfl) (by kernel_rfl) (by kernel_rfl) (fun _ _ _ h => h) (Or.inl ⟨by rfl, fun w _ => by go_simp⟩) ?_
  simp only [Act.put, List.setIfInBounds_toArray, List.set_cons_zero, List.set_cons_succ]
  refine takeH 8 53 (.agg (u8s root).toArray) hHeld rfl rfl (by kernel_rfl) (by kernel_rfl) (by kernel_rfl) (fun _ _ _ h => h) (yieldsIf_load_mid (by rfl) _ _ rfl g5 0 rfl _ _ (fun w h => (G50.out.on h).range 0 _ (by simp)) hu rfl HI2.out) ?_
  simp only [Act.put, List.setIfInBounds_toArray, List.set_cons_zero, List.set_cons_succ]
  refine takeH 10 55 (.agg (u8s leaf).toArray) hHeld rfl rfl (by kernel_rfl) (by kernel_rfl) (by kernel_rfl) (fun _ _ _ h => h) (yieldsIf_load_mid (by rfl) _ _ rfl g4 0 rfl _ _ (fun w h => (G40.out.on h).range 0 _ (by simp)) hu rfl HI1.out) ?_
  simp only [Act.put, List.setIfInBounds_toArray, List.set_cons_zero, List.set_cons_succ]
  refine takeH 11 56 (.pointer (some ⟨g3, 0, none⟩)) hHeld rfl rfl (by kernel_rfl) (by kernel_rfl) (by kernel_rfl) (fun _ _ _ h => h) (Or.inl ⟨by rfl, fun w _ => by go_simp⟩) ?_
  simp only [Act.put, List.setIfInBounds_toArray, List.set_cons_zero, List.set_cons_succ]
  refine takeH 12 57 (.int .i64 i) hHeld rfl rfl (by kernel_rfl) (by kernel_rfl) (by kernel_rfl) (fun _ _ _ h => h) (Or.inl ⟨by rfl, fun w hw => by have hw' : w.cell? ⟨g3, 0, none⟩ = some (.int .i64 i) := (fun h => (G30.out.on h).three.1) hw; go_simp⟩) ?_
  simp only [Act.put, List.setIfInBounds_toArray, List.set_cons_zero, List.set_cons_succ]
  refine takeH 13 58 (.pointer (some ⟨g3, 1, none⟩)) hHeld rfl rfl (by kernel_rfl) (by kernel_rfl) (by kernel_rfl) (fun _ _ _ h => h) (Or.inl ⟨by rfl, fun w _ => by go_simp⟩) ?_
  simp only [Act.put, List.setIfInBounds_toArray, List.set_cons_zero, List.set_cons_succ]
  refine takeH 14 59 (.int .i64 n) hHeld rfl rfl (by kernel_rfl) (by kernel_rfl) (by kernel_rfl) (fun _ _ _ h => h) (Or.inl ⟨by rfl, fun w hw => by have hw' : w.cell? ⟨g3, 1, none⟩ = some (.int .i64 n) := (fun h => (G30.out.on h).three.2.1) hw; go_simp⟩) ?_
  simp only [Act.put, List.setIfInBounds_toArray, List.set_cons_zero, List.set_cons_succ]
  refine takeH 15 60 (.pointer (some ⟨g3, 2, none⟩)) hHeld rfl rfl (by kernel_rfl) (by kernel_rfl) (by kernel_rfl) (fun _ _ _ h => h) (Or.inl ⟨by rfl, fun w _ => by go_simp⟩) ?_
  simp only [Act.put, List.setIfInBounds_toArray, List.set_cons_zero, List.set_cons_succ]
  refine takeH 16 61 (.slice a l cap) hHeld rfl rfl (by kernel_rfl) (by kernel_rfl) (by kernel_rfl) (fun _ _ _ h => h) (Or.inl ⟨by rfl, fun w hw => by have hw' : w.cell? ⟨g3, 2, none⟩ = some (.slice a l cap) := (fun h => (G30.out.on h).three.2.2) hw; go_simp⟩) ?_
  simp only [Act.put, List.setIfInBounds_toArray, List.set_cons_zero, List.set_cons_succ]
  refine takeH 17 62 (.agg (u8s root).toArray) hHeld rfl rfl (by kernel_rfl) (by kernel_rfl) (by kernel_rfl) (fun _ _ _ h => h) (yieldsIf_load_mid (by rfl) _ _ rfl g5 0 rfl _ _ (fun w h => (G50.out.on h).range 0 _ (by simp)) hu rfl HI2.out) ?_
  simp only [Act.put, List.setIfInBounds_toArray, List.set_cons_zero, List.set_cons_succ]
  have Y0 := hide (show Below u0.heap.size u0 u0.drew from (Below.refl _ _).drew)
  refine wpAnyH_ready (rs := [9]) (by kernel_rfl) (by simp) (AllReadyH.cons rfl (fun K hK => ?_) AllReadyH.nil)
  rw [if_pos (by rfl)]
  go_simp
  refine (inc7_any leaf root i n a' l cap' xs D E _ HB.out HLN.out HRN.out (P0.out.below Y0.out) (HK.out.below (on_below B0.out Y0.out) HK.out.lt)).mono ?_
  rintro r v1 ⟨rfl, hv1⟩
  have Y1 := hide (on_below Y0.out hv1)
  refine hK.out _ _ (Y1.out) (fun hHeld => ?_)
  clear hK K
  refine wpAnyH_ready (rs := [18]) (by kernel_rfl) (by simp) (AllReadyH.cons rfl (fun K hK => ?_) AllReadyH.nil)
  rw [if_pos (by rfl)]
  go_simp
  refine (incR7_any leaf root i n a l cap xs D E _ HB.out HLN.out HRN.out (HS.out.below (on_below B0.out Y1.out))).mono ?_
  rintro r v2 ⟨rfl, hv2⟩
  have Y2 := hide (on_below Y1.out hv2)
  refine hK.out _ _ (Y2.out) (fun hHeld => ?_)
  clear hK K
  refine takeH 19 64 (.bool true) hHeld rfl rfl (by kernel_rfl) (by kernel_rfl) (by kernel_rfl) (fun _ _ _ h => h) (Or.inl ⟨by rfl, fun w _ => by go_simp⟩) ?_
  simp only [Act.put, List.setIfInBounds_toArray, List.set_cons_zero, List.set_cons_succ]
  refine takeH 20 65 (.bool true) hHeld rfl rfl (by kernel_rfl) (by kernel_rfl) (by kernel_rfl) (fun _ _ _ h => h) (Or.inl ⟨by rfl, fun w _ => by go_simp⟩) ?_
  simp only [Act.put, List.setIfInBounds_toArray, List.set_cons_zero, List.set_cons_succ]
  refine takeH 21 12 (.bool true) hHeld rfl rfl (by kernel_rfl) (by kernel_rfl) (by kernel_rfl) (fun _ _ _ h => h) (Or.inl ⟨by rfl, fun w _ => by go_simp⟩) ?_
  simp only [Act.put, List.setIfInBounds_toArray, List.set_cons_zero, List.set_cons_succ]
  refine wpAnyH_done (by kernel_rfl) ?_ _
  refine NoPanic.normal ?_
  have P2 := hide (P0.out.below Y2.out)
  have G102 := hide (G10.out.on Y2.out)
  have G42 := hide (G40.out.on Y2.out)
  have G32 := hide (G30.out.on Y2.out)
  have B2 := hide (on_below B0.out Y2.out)
  have HIR := hide (inR_self D E)
  clear hHeld hu Y0 Y1 Y2 hv1 hv2 P0 G10 G40 G30 G50 G80 B0 HI1 HI2
  obtain ⟨c0, c1, c2'⟩ := G32.out.three
  go_wp2_with (first | (refine step_loadA wD rfl rfl G42.out HLU.out ?_) | (refine step_loadA wD rfl rfl G102.out HDU.out ?_) | fail)
  refine (inc7_any leaf D i n a' l cap' xs D E _ HB.out HLN.out HDN.out P2.out (HK.out.below B2.out HK.out.lt)).mono ?_
  rintro r v3 ⟨rfl, hv3⟩
  rw [HIR.out]
  have P3 := hide (P2.out.below hv3)
  have B3 := hide (on_below B2.out hv3)
  have e2 := cell_kept c2' hv3
  clear c0 c1 c2'
  go_wp2_with fail
  refine (kept_any a' l cap' a cap xs _ P3.out (HS.out.below B3.out)).mono ?_
  rintro r v4 ⟨rfl, hv4⟩
  go_wp2_with (go_at_call 13; refine (names7 _).mono ?_; rintro r w5 ⟨rfl, rfl⟩)
  go_ret
  exact ⟨rfl, on_below B3.out hv4⟩
theorem paths_law (i n : Int) (a : Option Addr) (l cap : Nat) (xs leaf root : List Int) (w : World) (hs : Ds w a l cap xs) (hll : leaf.length = 32) (hlb : ∀ x ∈ leaf, (Lit.int .u8 x).wf = true) (hrl : root.length = 32) (hrb : ∀ x ∈ root, (Lit.int .u8 x).wf = true) (hk : KT w) :
    Calls Tryd.prog 3 #[.agg #[.int .i64 i, .int .i64 n, .slice a l cap], .agg (u8s leaf).toArray, .agg (u8s root).toArray] w fun e w' => e = .returned (.bool true) ∧ Below w.heap.size w w' :=
  paths_walk i n a l cap xs leaf root w hs hll (fun x hx => wf_u8 (hlb x hx)) hrl (fun x hx => wf_u8 (hrb x hx)) hk

end Go.Proofs.YtdggooanpamoeaaDoor
