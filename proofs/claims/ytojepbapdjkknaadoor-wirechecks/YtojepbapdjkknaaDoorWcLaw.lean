/-
  The walk of WireChecks.
-/
import Derived.Test.YtojepbapdjkknaaDoorWc
namespace Go.Proofs.YtojepbapdjkknaaDoor
open Go.RowKit
set_option linter.unusedVariables false
set_option linter.unusedSimpArgs false

set_option maxRecDepth 100000 in
set_option maxHeartbeats 4000000 in
theorem checks_walk (a : Option Addr) (len cap : Nat) (xs x y : List Int) (w : World) (hs : Sl w a len cap xs) (hl : cap ≤ 140737488351232) (hxl : x.length = 32) (hxb : ∀ z ∈ x, (Lit.int .u8 z).wf = true) (hyl : y.length = 32) (hyb : ∀ z ∈ y, (Lit.int .u8 z).wf = true) (hk : KT w) :
    Calls Tryd.prog 5 #[.slice a len cap, .agg (u8s x).toArray, .agg (u8s y).toArray] w fun e w' => e = .returned (.bool true) ∧ Below w.heap.size w w' := by
  obtain ⟨k, f, s, n, ys, E, hD⟩ := decB xs
  obtain ⟨D1, E1, hR1⟩ := root_both x f s n ys hxl (fun z hz => wf_u8 (hxb z hz))
  obtain ⟨X2, Y2, E2, hR2⟩ := roots_both x f s n ys hxl (fun z hz => wf_u8 (hxb z hz)) hD.len (hD.byte hs.hbyte)
  have HS := hide hs
  have HK := hide hk
  have hcap := hs.hcap
  have HX := hide hs.hlen
  have HXB := hide hs.hbyte
  have HXU := hide (show (u8s x).length = 32 by rw [u8s_length, hxl])
  have HYU := hide (show (u8s y).length = 32 by rw [u8s_length, hyl])
  have C1 : Hid (∀ (b : Option Addr) (c : Nat) (V : World), Below w.heap.size w V → Sl V b len c xs → Calls Tryd.prog 20 #[.slice b len c, .agg (u8s x).toArray, .agg (u8s y).toArray] V fun r w' => r = .returned (.int .i64 (ckR E k 1 (inR D1 y E1))) ∧ Below V.heap.size V w') :=
    hide (fun b c V hV hb => check_any hD x y _ b len c V hb hxl hyl (fun va vc U hU hd => inc7_any x y f s va n vc ys D1 E1 U hR1 hxl hyl hd (hk.below (on_below hV hU) hk.lt)))
  have C2 : Hid (∀ (b : Option Addr) (c : Nat) (V : World), Below w.heap.size w V → Sl V b len c xs → Calls Tryd.prog 21 #[.slice b len c, .agg (u8s x).toArray, .agg (u8s y).toArray] V fun r w' => r = .returned (.int .i64 (ckR E k 1 (inR D1 y E1))) ∧ Below V.heap.size V w') :=
    hide (fun b c V hV hb => checkR_any hD x y _ b len c V hb hxl hyl (fun va vc U hU hd => incR7_any x y f s va n vc ys D1 E1 U hR1 hxl hyl hd))
  have C3 : Hid (∀ (b : Option Addr) (c : Nat) (V : World), Below w.heap.size w V → Sl V b len c xs → Calls Tryd.prog 22 #[.slice b len c, .agg (u8s x).toArray, .agg (u8s y).toArray] V fun r w' => r = .returned (.int .i64 (ckR E k 2 (csR X2 Y2 x y E2))) ∧ Below V.heap.size V w') :=
    hide (fun b c V hV hb => check2_any hD x y _ b len c V hb hxl hyl (fun va vc U hU hd => cons7_any x y f s va n vc ys X2 Y2 E2 U hR2 hxl hyl hd (hk.below (on_below hV hU) hk.lt)))
  have C4 : Hid (∀ (b : Option Addr) (c : Nat) (V : World), Below w.heap.size w V → Sl V b len c xs → Calls Tryd.prog 23 #[.slice b len c, .agg (u8s x).toArray, .agg (u8s y).toArray] V fun r w' => r = .returned (.int .i64 (ckR E k 2 (csR X2 Y2 x y E2))) ∧ Below V.heap.size V w') :=
    hide (fun b c V hV hb => checkR2_any hD x y _ b len c V hb hxl hyl (fun va vc U hU hd => consR7_any x y f s va n vc ys X2 Y2 E2 U hR2 hxl hyl hd))
  generalize ckR E k 1 (inR D1 y E1) = Ra at *
  generalize ckR E k 2 (csR X2 Y2 x y E2) = Rb at *
  clear hD hR1 hR2 hs hk hxl hxb hyl hyb
  go_enter Tryd.func5, Tryd.ntmps5
  go_wp2_with (refine step_box rfl rfl ?_)
  intro w1 g4 hr1 hl1 hb1
  have G4 := hide hr1
  clear hr1
  go_wp2_with (refine step_box rfl rfl ?_)
  intro w2 g5 hr2 hl2 hb2
  have G52 := hide hr2
  have G42 := hide (G4.out.on hb2)
  have B2 := hide (on_below hb1 hb2)
  clear hr2 hb1 hb2 G4 hl1 hl2
  have ho0 : Own (w2.alloc (.cells #[] 5)) w2.heap.size (.slice (some ⟨w2.heap.size, 0, none⟩) 0 0) [] := Own.of_blk (xs := []) (Blk.made w2 5 []) (Nat.le_refl _) (by simp)
  have hb0 : Below w2.heap.size w2 (w2.alloc (.cells #[] 5)) := (Below.refl _ _).alloc (Nat.le_refl _) _
  go_wp2_with (refine step_append rfl rfl rfl ho0 ((HS.out.below B2.out).below hb0) (by simp; omega) (by simp) ?_)
  intro v1 w3 ho3 hg3 hn3
  rw [List.nil_append] at ho3
  have Y3 := hide (hb0.trans (Below.of_grown hg3 hb0.size ho0.lt))
  have B3 := hide (on_below B2.out Y3.out)
  have G43 := hide (G42.out.on Y3.out)
  have G53 := hide (G52.out.on Y3.out)
  have hv1 : v1 ≠ .slice none 0 0 := fun e => by have e2 := (hn3 e).1; cases e2
  obtain ⟨gi, ci, rfl, hli, hsi⟩ := ho3.sl HXB.out (by rw [HX.out]; omega) hv1
  rw [HX.out] at hsi ⊢
  have SI := hide hsi
  clear ho0 hb0 ho3 hg3 hn3 hv1 hsi hli Y3 B2 G42 G52
  go_wp2_with fail
  refine wp_region_noPanic ?_
  have Y0 := hide ((Below.refl w3.heap.size w3).drew)
  have hu := aD.und
  have HI1 : Hid ((Tryd.prog.info? 45).map (·.size) = some (u8s x).length) := hide (by rw [wD.size, HXU.out])
  have HI2 : Hid ((Tryd.prog.info? 45).map (·.size) = some (u8s y).length) := hide (by rw [wD.size, HYU.out])
  have HX0 : Hid (∀ v : World, Below w3.heap.size w3 v → v.rangeAt g4 0 (u8s x)) := hide (fun v hv => (G43.out.on hv).range 0 _ (by simp))
  have HY0 : Hid (∀ v : World, Below w3.heap.size w3 v → v.rangeAt g5 0 (u8s y)) := hide (fun v hv => (G53.out.on hv).range 0 _ (by simp))
  have HI0 : Hid (∀ v : World, Below w3.heap.size w3 v → Sl v (some ⟨gi, 0, none⟩) len ci xs) := hide (fun v hv => SI.out.below hv)
  have HS0 : Hid (∀ v : World, Below w3.heap.size w3 v → Sl v a len cap xs) := hide (fun v hv => HS.out.below (on_below B3.out hv))
  refine wp_region_held_drew (S := fun v : World => Below w3.heap.size w3 v) (by kernel_rfl) Y0.out (fun hHeld => ?_)
  refine takeH 0 11 (.slice (some ⟨gi, 0, none⟩) len ci) hHeld rfl rfl (by kernel_rfl) (by kernel_rfl) (by kernel_rfl) (fun _ _ _ h => h) (Or.inl ⟨by rfl, fun w _ => by go_simp⟩) ?_
  simp only [Act.put, List.setIfInBounds_toArray, List.set_cons_zero, List.set_cons_succ]
  refine takeH 1 12 (.agg (u8s x).toArray) hHeld rfl rfl (by kernel_rfl) (by kernel_rfl) (by kernel_rfl) (fun _ _ _ h => h) (yieldsIf_load_mid (by rfl) _ _ rfl g4 0 rfl _ _ (fun w h => HX0.out w h) hu rfl HI1.out) ?_
  simp only [Act.put, List.setIfInBounds_toArray, List.set_cons_zero, List.set_cons_succ]
  refine takeH 2 13 (.agg (u8s y).toArray) hHeld rfl rfl (by kernel_rfl) (by kernel_rfl) (by kernel_rfl) (fun _ _ _ h => h) (yieldsIf_load_mid (by rfl) _ _ rfl g5 0 rfl _ _ (fun w h => HY0.out w h) hu rfl HI2.out) ?_
  simp only [Act.put, List.setIfInBounds_toArray, List.set_cons_zero, List.set_cons_succ]
  refine takeH 4 15 (.slice a len cap) hHeld rfl rfl (by kernel_rfl) (by kernel_rfl) (by kernel_rfl) (fun _ _ _ h => h) (Or.inl ⟨by rfl, fun w _ => by go_simp⟩) ?_
  simp only [Act.put, List.setIfInBounds_toArray, List.set_cons_zero, List.set_cons_succ]
  refine takeH 5 16 (.agg (u8s x).toArray) hHeld rfl rfl (by kernel_rfl) (by kernel_rfl) (by kernel_rfl) (fun _ _ _ h => h) (yieldsIf_load_mid (by rfl) _ _ rfl g4 0 rfl _ _ (fun w h => HX0.out w h) hu rfl HI1.out) ?_
  simp only [Act.put, List.setIfInBounds_toArray, List.set_cons_zero, List.set_cons_succ]
  refine takeH 6 17 (.agg (u8s y).toArray) hHeld rfl rfl (by kernel_rfl) (by kernel_rfl) (by kernel_rfl) (fun _ _ _ h => h) (yieldsIf_load_mid (by rfl) _ _ rfl g5 0 rfl _ _ (fun w h => HY0.out w h) hu rfl HI2.out) ?_
  simp only [Act.put, List.setIfInBounds_toArray, List.set_cons_zero, List.set_cons_succ]
  refine wpAnyH_ready (rs := [3]) (by kernel_rfl) (by simp) (AllReadyH.cons rfl (fun K hK => ?_) AllReadyH.nil)
  rw [if_pos (by rfl)]
  go_simp
  refine (C1.out _ _ _ (on_below B3.out Y0.out) (HI0.out _ Y0.out)).mono ?_
  rintro r v1 ⟨rfl, hv⟩
  have Y1 := hide (on_below Y0.out hv)
  refine hK.out _ _ Y1.out (fun hHeld => ?_)
  clear hK K hv
  try simp only [Act.put, List.setIfInBounds_toArray, List.set_cons_zero, List.set_cons_succ]
  refine wpAnyH_ready (rs := [7]) (by kernel_rfl) (by simp) (AllReadyH.cons rfl (fun K hK => ?_) AllReadyH.nil)
  rw [if_pos (by rfl)]
  go_simp
  refine (C2.out _ _ _ (on_below B3.out Y1.out) (HS0.out _ Y1.out)).mono ?_
  rintro r v2 ⟨rfl, hv⟩
  have Y2 := hide (on_below Y1.out hv)
  refine hK.out _ _ Y2.out (fun hHeld => ?_)
  clear hK K hv
  try simp only [Act.put, List.setIfInBounds_toArray, List.set_cons_zero, List.set_cons_succ]
  refine takeH 8 19 (.bool true) hHeld rfl rfl (by kernel_rfl) (by kernel_rfl) (by kernel_rfl) (fun _ _ _ h => h) (Or.inl ⟨by rfl, fun w _ => by go_simp⟩) ?_
  simp only [Act.put, List.setIfInBounds_toArray, List.set_cons_zero, List.set_cons_succ]
  refine takeH 9 20 (.bool true) hHeld rfl rfl (by kernel_rfl) (by kernel_rfl) (by kernel_rfl) (fun _ _ _ h => h) (Or.inl ⟨by rfl, fun w _ => by go_simp⟩) ?_
  simp only [Act.put, List.setIfInBounds_toArray, List.set_cons_zero, List.set_cons_succ]
  refine takeH 10 21 (.slice (some ⟨gi, 0, none⟩) len ci) hHeld rfl rfl (by kernel_rfl) (by kernel_rfl) (by kernel_rfl) (fun _ _ _ h => h) (Or.inl ⟨by rfl, fun w _ => by go_simp⟩) ?_
  simp only [Act.put, List.setIfInBounds_toArray, List.set_cons_zero, List.set_cons_succ]
  refine takeH 11 22 (.agg (u8s x).toArray) hHeld rfl rfl (by kernel_rfl) (by kernel_rfl) (by kernel_rfl) (fun _ _ _ h => h) (yieldsIf_load_mid (by rfl) _ _ rfl g4 0 rfl _ _ (fun w h => HX0.out w h) hu rfl HI1.out) ?_
  simp only [Act.put, List.setIfInBounds_toArray, List.set_cons_zero, List.set_cons_succ]
  refine takeH 12 23 (.agg (u8s y).toArray) hHeld rfl rfl (by kernel_rfl) (by kernel_rfl) (by kernel_rfl) (fun _ _ _ h => h) (yieldsIf_load_mid (by rfl) _ _ rfl g5 0 rfl _ _ (fun w h => HY0.out w h) hu rfl HI2.out) ?_
  simp only [Act.put, List.setIfInBounds_toArray, List.set_cons_zero, List.set_cons_succ]
  refine takeH 14 25 (.slice a len cap) hHeld rfl rfl (by kernel_rfl) (by kernel_rfl) (by kernel_rfl) (fun _ _ _ h => h) (Or.inl ⟨by rfl, fun w _ => by go_simp⟩) ?_
  simp only [Act.put, List.setIfInBounds_toArray, List.set_cons_zero, List.set_cons_succ]
  refine takeH 15 26 (.agg (u8s x).toArray) hHeld rfl rfl (by kernel_rfl) (by kernel_rfl) (by kernel_rfl) (fun _ _ _ h => h) (yieldsIf_load_mid (by rfl) _ _ rfl g4 0 rfl _ _ (fun w h => HX0.out w h) hu rfl HI1.out) ?_
  simp only [Act.put, List.setIfInBounds_toArray, List.set_cons_zero, List.set_cons_succ]
  refine takeH 16 27 (.agg (u8s y).toArray) hHeld rfl rfl (by kernel_rfl) (by kernel_rfl) (by kernel_rfl) (fun _ _ _ h => h) (yieldsIf_load_mid (by rfl) _ _ rfl g5 0 rfl _ _ (fun w h => HY0.out w h) hu rfl HI2.out) ?_
  simp only [Act.put, List.setIfInBounds_toArray, List.set_cons_zero, List.set_cons_succ]
  refine wpAnyH_ready (rs := [13]) (by kernel_rfl) (by simp) (AllReadyH.cons rfl (fun K hK => ?_) AllReadyH.nil)
  rw [if_pos (by rfl)]
  go_simp
  refine (C3.out _ _ _ (on_below B3.out Y2.out) (HI0.out _ Y2.out)).mono ?_
  rintro r v3 ⟨rfl, hv⟩
  have Y3 := hide (on_below Y2.out hv)
  refine hK.out _ _ Y3.out (fun hHeld => ?_)
  clear hK K hv
  try simp only [Act.put, List.setIfInBounds_toArray, List.set_cons_zero, List.set_cons_succ]
  refine wpAnyH_ready (rs := [17]) (by kernel_rfl) (by simp) (AllReadyH.cons rfl (fun K hK => ?_) AllReadyH.nil)
  rw [if_pos (by rfl)]
  go_simp
  refine (C4.out _ _ _ (on_below B3.out Y3.out) (HS0.out _ Y3.out)).mono ?_
  rintro r v4 ⟨rfl, hv⟩
  have Y4 := hide (on_below Y3.out hv)
  refine hK.out _ _ Y4.out (fun hHeld => ?_)
  clear hK K hv
  try simp only [Act.put, List.setIfInBounds_toArray, List.set_cons_zero, List.set_cons_succ]
  refine takeH 18 29 (.bool true) hHeld rfl rfl (by kernel_rfl) (by kernel_rfl) (by kernel_rfl) (fun _ _ _ h => h) (Or.inl ⟨by rfl, fun w _ => by go_simp⟩) ?_
  simp only [Act.put, List.setIfInBounds_toArray, List.set_cons_zero, List.set_cons_succ]
  refine takeH 19 30 (.bool true) hHeld rfl rfl (by kernel_rfl) (by kernel_rfl) (by kernel_rfl) (fun _ _ _ h => h) (Or.inl ⟨by rfl, fun w _ => by go_simp⟩) ?_
  simp only [Act.put, List.setIfInBounds_toArray, List.set_cons_zero, List.set_cons_succ]
  refine takeH 20 31 (.bool true) hHeld rfl rfl (by kernel_rfl) (by kernel_rfl) (by kernel_rfl) (fun _ _ _ h => h) (Or.inl ⟨by rfl, fun w _ => by go_simp⟩) ?_
  simp only [Act.put, List.setIfInBounds_toArray, List.set_cons_zero, List.set_cons_succ]
  refine takeH 21 32 (.slice (some ⟨gi, 0, none⟩) len ci) hHeld rfl rfl (by kernel_rfl) (by kernel_rfl) (by kernel_rfl) (fun _ _ _ h => h) (Or.inl ⟨by rfl, fun w _ => by go_simp⟩) ?_
  simp only [Act.put, List.setIfInBounds_toArray, List.set_cons_zero, List.set_cons_succ]
  refine takeH 22 33 (.string (str xs)) hHeld rfl rfl (by kernel_rfl) (by kernel_rfl) (by kernel_rfl) (fun _ _ _ h => h) (Or.inl ⟨by rfl, fun w h => run_op rfl (toStr (HI0.out w h))⟩) ?_
  simp only [Act.put, List.setIfInBounds_toArray, List.set_cons_zero, List.set_cons_succ]
  refine takeH 23 34 (.slice a len cap) hHeld rfl rfl (by kernel_rfl) (by kernel_rfl) (by kernel_rfl) (fun _ _ _ h => h) (Or.inl ⟨by rfl, fun w _ => by go_simp⟩) ?_
  simp only [Act.put, List.setIfInBounds_toArray, List.set_cons_zero, List.set_cons_succ]
  refine takeH 24 35 (.string (str xs)) hHeld rfl rfl (by kernel_rfl) (by kernel_rfl) (by kernel_rfl) (fun _ _ _ h => h) (Or.inl ⟨by rfl, fun w h => run_op rfl (toStr (HS0.out w h))⟩) ?_
  simp only [Act.put, List.setIfInBounds_toArray, List.set_cons_zero, List.set_cons_succ]
  refine takeH 25 36 (.bool true) hHeld rfl rfl (by kernel_rfl) (by kernel_rfl) (by kernel_rfl) (fun _ _ _ h => h) (Or.inl ⟨by rfl, fun w _ => by go_simp⟩) ?_
  simp only [Act.put, List.setIfInBounds_toArray, List.set_cons_zero, List.set_cons_succ]
  refine takeH 26 37 (.bool true) hHeld rfl rfl (by kernel_rfl) (by kernel_rfl) (by kernel_rfl) (fun _ _ _ h => h) (Or.inl ⟨by rfl, fun w _ => by go_simp⟩) ?_
  simp only [Act.put, List.setIfInBounds_toArray, List.set_cons_zero, List.set_cons_succ]
  refine takeH 27 6 (.bool true) hHeld rfl rfl (by kernel_rfl) (by kernel_rfl) (by kernel_rfl) (fun _ _ _ h => h) (Or.inl ⟨by rfl, fun w _ => by go_simp⟩) ?_
  simp only [Act.put, List.setIfInBounds_toArray, List.set_cons_zero, List.set_cons_succ]
  refine wpAnyH_done (by kernel_rfl) ?_ _
  refine NoPanic.normal ?_
  clear hHeld hu
  go_wp2
  go_ret
  exact ⟨rfl, on_below B3.out Y4.out⟩

end Go.Proofs.YtojepbapdjkknaaDoor
