/-
  The walk of MacTells.
-/
import Derived.Test.YtefaabmkcgdkiaaDoorMr
namespace Go.Proofs.YtefaabmkcgdkiaaDoor
open Go.RowKit
set_option linter.unusedVariables false

theorem str_5a (xs : List Int) : str xs ++ { data := #[90] } = str (xs ++ [90]) := (str_append xs [90])

set_option maxHeartbeats 1000000 in
theorem extract_any (a : Option Addr) (len cap : Nat) (xs : List Int) (a1 : Option Addr) (len1 cap1 : Nat) (ys : List Int) (w : World) (hs : Sl w a len cap xs) (hs1 : Sl w a1 len1 cap1 ys) (hk : KT w) :
    Calls Tryd.prog 22 #[.slice a len cap, .slice a1 len1 cap1] w fun e w' => e = .returned (.agg (u8s (mc xs ys)).toArray) ∧ Below w.heap.size w w' := by
  have HS := hide hs
  have HS1 := hide hs1
  have HK := hide hk
  have HML := hide (show (u8s (mc xs ys)).length = 32 by rw [u8s_length, mc_length])
  clear hs hs1 hk
  go_enter Tryd.func22, Tryd.ntmps22
  go_wp2_with (refine step_alloc zD rfl ?_)
  intro w1 g1 hg1 hle1 hb1
  have S1 := hide (HS.out.below hb1)
  have Y1 := hide (HS1.out.below hb1)
  have K1 := hide (HK.out.below hb1 HK.out.lt)
  have G1 := hide hg1
  clear hg1
  go_wp2_with fail
  refine (mac_any _ _ _ xs _ _ _ ys _ S1.out Y1.out K1.out).mono ?_
  rintro e w2 ⟨rfl, hb2⟩
  have G2 := hide (G1.out.below hb2 G1.out.lt)
  go_wp2_with (refine step_storeA wD rfl rfl rfl G2.out HML.out (One.u8 _) rfl ?_; intro w3 hg3 hbut3)
  refine bodyPost_ret (results_wide rfl wD _ _ rfl hg3 HML.out) rfl ⟨rfl, ?_⟩
  exact hb1.trans ((hb2.mono hb1.size).trans (hbut3.below hle1))

set_option maxRecDepth 100000 in
set_option maxHeartbeats 4000000 in
theorem tells_walk (a : Option Addr) (len cap : Nat) (xs : List Int) (a1 : Option Addr) (len1 cap1 : Nat) (ys : List Int) (w : World) (hs : Sl w a len cap xs) (hl : cap ≤ 140737488351232) (hs1 : Sl w a1 len1 cap1 ys) (hl1 : cap1 ≤ 140737488351232) (hk : KT w) :
    Calls Tryd.prog 5 #[.slice a len cap, .slice a1 len1 cap1] w fun e w' => e = .returned (.bool true) ∧ Below w.heap.size w w' := by
  have HS := hide hs
  have HS1 := hide hs1
  have HK := hide hk
  have hcap := hs.hcap
  have hcap1 := hs1.hcap
  have HX := hide hs.hlen
  have HY := hide hs1.hlen
  have HXB := hide hs.hbyte
  have HYB := hide hs1.hbyte
  have HML := hide (show (u8s (mc xs ys)).length = 32 by rw [u8s_length, mc_length])
  clear hs hs1 hk
  go_enter Tryd.func5, Tryd.ntmps5
  have ho0 : Own (w.alloc (.cells #[] 5)) w.heap.size (.slice (some ⟨w.heap.size, 0, none⟩) 0 0) [] := Own.of_blk (xs := []) (Blk.made w 5 []) (Nat.le_refl _) (by simp)
  have hb0 : Below w.heap.size w (w.alloc (.cells #[] 5)) := (Below.refl _ _).alloc (Nat.le_refl _) _
  go_wp2_with (refine step_append rfl rfl rfl ho0 (HS.out.below hb0) (by simp; omega) (by simp) ?_)
  intro v1 w1 ho1 hg1 hn1
  have hb1 : Below w.heap.size w w1 := hb0.trans (Below.of_grown hg1 hb0.size ho0.lt)
  have hv1n : v1 ≠ .slice none 0 0 := fun e => by have e2 := (hn1 e).1; cases e2
  clear hg1 hn1 ho0 hb0
  have HO1 := hide ho1
  clear ho1
  go_wp2_with (refine step_append rfl rfl rfl (HO1.out.alloc _) (one_slB _ 90 (by omega)) (by simp [HX.out]; omega) (by have := hb1.size; simp; omega) ?_)
  intro v2 w2 ho2 hg2 hn2
  have HB2 := hide ((hb1.alloc hb1.size _).trans (Below.of_grown hg2 (by have := hb1.size; simp; omega) HO1.out.lt))
  have hv2n : v2 ≠ .slice none 0 0 := fun e => hv1n (hn2 e).1
  clear hg2 hn2 HO1
  rw [List.nil_append] at ho2
  obtain ⟨gk, ck, rfl, _, hin⟩ := ho2.sl (HXB.out.append (by simp [isB])) (by simp [HX.out]; omega) hv2n
  have hlx : (xs ++ [90]).length = len + 1 := by simp [HX.out]
  rw [hlx] at hin ⊢
  clear hlx
  have hkc := hin.hcap
  have hkm := hin.hmax
  have IK := hide hin
  have hpre := hin.take len (by omega)
  rw [List.take_append_of_le_length (by rw [HX.out]; exact Nat.le_refl _), List.take_of_length_le (by rw [HX.out]; exact Nat.le_refl _)] at hpre
  have PK := hide hpre
  clear hin hpre ho2 hv1n hv2n hb1
  have Y2 := hide (HS1.out.below HB2.out)
  have ho0 : Own (w2.alloc (.cells #[] 5)) w2.heap.size (.slice (some ⟨w2.heap.size, 0, none⟩) 0 0) [] := Own.of_blk (xs := []) (Blk.made w2 5 []) (Nat.le_refl _) (by simp)
  have hb0 : Below w2.heap.size w2 (w2.alloc (.cells #[] 5)) := (Below.refl _ _).alloc (Nat.le_refl _) _
  go_wp2_with (refine step_append rfl rfl rfl ho0 (Y2.out.below hb0) (by simp; omega) (by simp) ?_)
  intro v1 w1 ho1 hg1 hn1
  have hb1 : Below w2.heap.size w2 w1 := hb0.trans (Below.of_grown hg1 hb0.size ho0.lt)
  have hv1n : v1 ≠ .slice none 0 0 := fun e => by have e2 := (hn1 e).1; cases e2
  clear hg1 hn1 ho0 hb0
  have HO1 := hide ho1
  clear ho1
  go_wp2_with (refine step_append rfl rfl rfl (HO1.out.alloc _) (one_slB _ 90 (by omega)) (by simp [HY.out]; omega) (by have := hb1.size; simp; omega) ?_)
  intro v2 w3 ho2 hg2 hn2
  have HB3 := hide ((hb1.alloc hb1.size _).trans (Below.of_grown hg2 (by have := hb1.size; simp; omega) HO1.out.lt))
  have hv2n : v2 ≠ .slice none 0 0 := fun e => hv1n (hn2 e).1
  clear hg2 hn2 HO1
  rw [List.nil_append] at ho2
  obtain ⟨gm, cm, rfl, _, hin⟩ := ho2.sl (HYB.out.append (by simp [isB])) (by simp [HY.out]; omega) hv2n
  have hlx : (ys ++ [90]).length = len1 + 1 := by simp [HY.out]
  rw [hlx] at hin ⊢
  clear hlx
  have hmc := hin.hcap
  have hmm := hin.hmax
  have IM := hide hin
  have hpre := hin.take len1 (by omega)
  rw [List.take_append_of_le_length (by rw [HY.out]; exact Nat.le_refl _), List.take_of_length_le (by rw [HY.out]; exact Nat.le_refl _)] at hpre
  have PM := hide hpre
  clear hin hpre ho2 hv1n hv2n hb1
  have HBw := hide (HB2.out.trans (HB3.out.mono HB2.out.size))
  have S3 := hide (HS.out.below HBw.out)
  have Y3 := hide (HS1.out.below HBw.out)
  have PK3 := hide (PK.out.below HB3.out)
  have IK3 := hide (IK.out.below HB3.out)
  clear PK IK Y2
  go_wp2_with fail
  refine (macR_any _ _ _ xs _ _ _ ys _ S3.out (by omega) Y3.out (by omega)).mono ?_
  rintro e w4 ⟨rfl, hb4⟩
  go_wp2_with (refine step_alloc zD rfl ?_)
  intro w5 g7 hg5 hle5 hb5
  have G5 := hide hg5
  clear hg5
  go_wp2_with (refine step_storeA wD rfl rfl rfl G5.out HML.out (One.u8 _) rfl ?_)
  intro w6 hg6 hbut6
  have B36 := hide (hb4.trans ((hb5.trans (hbut6.below hle5)).mono hb4.size))
  have G6 := hide hg6
  have PK6 := hide (PK3.out.below B36.out)
  have PM6 := hide (PM.out.below B36.out)
  have IK6 := hide (IK3.out.below B36.out)
  have IM6 := hide (IM.out.below B36.out)
  have HB6 := hide (HBw.out.trans (B36.out.mono HBw.out.size))
  have K6 := hide (HK.out.below HB6.out HK.out.lt)
  have S6 := hide (HS.out.below HB6.out)
  have Y6 := hide (HS1.out.below HB6.out)
  clear hb4 hb5 hbut6 hg6 G5 PK3 PM IK3 IM S3 Y3 hle5
  have hu := aD.und
  have hi : (Tryd.prog.info? 46).map (·.size) = some (u8s (mc xs ys)).length := by rw [wD.size, HML.out]
  go_wp2_with fail
  refine wp_region_noPanic ?_
  have B0 := hide ((Below.refl w6.heap.size w6).drew)
  refine wp_region_held_drew (S := fun v : World => v.rangeAt g7 0 (u8s (mc xs ys))) (by kernel_rfl) ((G6.out.below B0.out G6.out.lt).range 0 _ (by simp)) (fun hHeld => ?_)
  refine takeH 0 22 (.slice (some ⟨gk, 0, none⟩) (len + 1) ck) hHeld rfl rfl (by kernel_rfl) (by kernel_rfl) (by kernel_rfl) (fun _ _ _ h => h) (Or.inl ⟨by rfl, fun w _ => by go_simp⟩) ?_
  simp only [Act.put, List.setIfInBounds_toArray, List.set_cons_zero, List.set_cons_succ]
  refine takeH 1 23 (.slice a len cap) hHeld rfl rfl (by kernel_rfl) (by kernel_rfl) (by kernel_rfl) (fun _ _ _ h => h) (Or.inl ⟨by rfl, fun w _ => by go_simp⟩) ?_
  simp only [Act.put, List.setIfInBounds_toArray, List.set_cons_zero, List.set_cons_succ]
  refine takeH 2 24 (.int .i64 (len : Int)) hHeld rfl rfl (by kernel_rfl) (by kernel_rfl) (by kernel_rfl) (fun _ _ _ h => h) (Or.inl ⟨by rfl, fun w _ => by go_simp⟩) ?_
  simp only [Act.put, List.setIfInBounds_toArray, List.set_cons_zero, List.set_cons_succ]
  refine takeH 3 25 (.slice (some ⟨gk, 0, none⟩) len ck) hHeld rfl rfl (by kernel_rfl) (by kernel_rfl) (by kernel_rfl) (fun _ _ _ h => h) (Or.inl ⟨by rfl, fun w _ => run_op rfl (sl_to gk (len + 1) ck len (len : Int) rfl (by omega) w)⟩) ?_
  simp only [Act.put, List.setIfInBounds_toArray, List.set_cons_zero, List.set_cons_succ]
  refine takeH 4 26 (.slice (some ⟨gm, 0, none⟩) (len1 + 1) cm) hHeld rfl rfl (by kernel_rfl) (by kernel_rfl) (by kernel_rfl) (fun _ _ _ h => h) (Or.inl ⟨by rfl, fun w _ => by go_simp⟩) ?_
  simp only [Act.put, List.setIfInBounds_toArray, List.set_cons_zero, List.set_cons_succ]
  refine takeH 5 27 (.slice a1 len1 cap1) hHeld rfl rfl (by kernel_rfl) (by kernel_rfl) (by kernel_rfl) (fun _ _ _ h => h) (Or.inl ⟨by rfl, fun w _ => by go_simp⟩) ?_
  simp only [Act.put, List.setIfInBounds_toArray, List.set_cons_zero, List.set_cons_succ]
  refine takeH 6 28 (.int .i64 (len1 : Int)) hHeld rfl rfl (by kernel_rfl) (by kernel_rfl) (by kernel_rfl) (fun _ _ _ h => h) (Or.inl ⟨by rfl, fun w _ => by go_simp⟩) ?_
  simp only [Act.put, List.setIfInBounds_toArray, List.set_cons_zero, List.set_cons_succ]
  refine takeH 7 29 (.slice (some ⟨gm, 0, none⟩) len1 cm) hHeld rfl rfl (by kernel_rfl) (by kernel_rfl) (by kernel_rfl) (fun _ _ _ h => h) (Or.inl ⟨by rfl, fun w _ => run_op rfl (sl_to gm (len1 + 1) cm len1 (len1 : Int) rfl (by omega) w)⟩) ?_
  simp only [Act.put, List.setIfInBounds_toArray, List.set_cons_zero, List.set_cons_succ]
  refine takeH 9 31 (.agg (u8s (mc xs ys)).toArray) hHeld rfl rfl (by kernel_rfl) (by kernel_rfl) (by kernel_rfl) (fun _ _ _ h => h) (yieldsIf_load_mid (by rfl) _ _ rfl g7 0 rfl _ _ (fun w h => h) hu rfl hi) ?_
  simp only [Act.put, List.setIfInBounds_toArray, List.set_cons_zero, List.set_cons_succ]
  refine wpAnyH_ready (rs := [8]) (by kernel_rfl) (by simp) (AllReadyH.cons rfl (fun K hK => ?_) AllReadyH.nil)
  rw [if_pos (by rfl)]
  go_simp
  refine (mac_any _ _ _ xs _ _ _ ys _ (PK6.out.below B0.out) (PM6.out.below B0.out) (K6.out.below B0.out K6.out.lt)).mono ?_
  rintro e v1 ⟨rfl, hv1⟩
  have B1 := hide (B0.out.trans (hv1.mono B0.out.size))
  refine hK.out _ _ ((G6.out.below B1.out G6.out.lt).range 0 _ (by simp)) (fun hHeld => ?_)
  clear hK K
  clear hv1
  refine takeH 10 32 (.bool true) hHeld rfl rfl (by kernel_rfl) (by kernel_rfl) (by kernel_rfl) (fun _ _ _ h => h) (Or.inl ⟨by rfl, fun v _ => run_eqT aD _ rfl rfl (mc_length xs ys)⟩) ?_
  simp only [Act.put, List.setIfInBounds_toArray, List.set_cons_zero, List.set_cons_succ]
  refine takeH 11 33 (.bool true) hHeld rfl rfl (by kernel_rfl) (by kernel_rfl) (by kernel_rfl) (fun _ _ _ h => h) (Or.inl ⟨by rfl, fun w _ => by go_simp⟩) ?_
  simp only [Act.put, List.setIfInBounds_toArray, List.set_cons_zero, List.set_cons_succ]
  refine takeH 12 34 (.slice (some ⟨gk, 0, none⟩) (len + 1) ck) hHeld rfl rfl (by kernel_rfl) (by kernel_rfl) (by kernel_rfl) (fun _ _ _ h => h) (Or.inl ⟨by rfl, fun w _ => by go_simp⟩) ?_
  simp only [Act.put, List.setIfInBounds_toArray, List.set_cons_zero, List.set_cons_succ]
  refine takeH 13 35 (.slice a len cap) hHeld rfl rfl (by kernel_rfl) (by kernel_rfl) (by kernel_rfl) (fun _ _ _ h => h) (Or.inl ⟨by rfl, fun w _ => by go_simp⟩) ?_
  simp only [Act.put, List.setIfInBounds_toArray, List.set_cons_zero, List.set_cons_succ]
  refine takeH 14 36 (.int .i64 (len : Int)) hHeld rfl rfl (by kernel_rfl) (by kernel_rfl) (by kernel_rfl) (fun _ _ _ h => h) (Or.inl ⟨by rfl, fun w _ => by go_simp⟩) ?_
  simp only [Act.put, List.setIfInBounds_toArray, List.set_cons_zero, List.set_cons_succ]
  refine takeH 15 37 (.slice (some ⟨gk, 0, none⟩) len ck) hHeld rfl rfl (by kernel_rfl) (by kernel_rfl) (by kernel_rfl) (fun _ _ _ h => h) (Or.inl ⟨by rfl, fun w _ => run_op rfl (sl_to gk (len + 1) ck len (len : Int) rfl (by omega) w)⟩) ?_
  simp only [Act.put, List.setIfInBounds_toArray, List.set_cons_zero, List.set_cons_succ]
  refine takeH 16 38 (.slice (some ⟨gm, 0, none⟩) (len1 + 1) cm) hHeld rfl rfl (by kernel_rfl) (by kernel_rfl) (by kernel_rfl) (fun _ _ _ h => h) (Or.inl ⟨by rfl, fun w _ => by go_simp⟩) ?_
  simp only [Act.put, List.setIfInBounds_toArray, List.set_cons_zero, List.set_cons_succ]
  refine takeH 17 39 (.slice a1 len1 cap1) hHeld rfl rfl (by kernel_rfl) (by kernel_rfl) (by kernel_rfl) (fun _ _ _ h => h) (Or.inl ⟨by rfl, fun w _ => by go_simp⟩) ?_
  simp only [Act.put, List.setIfInBounds_toArray, List.set_cons_zero, List.set_cons_succ]
  refine takeH 18 40 (.int .i64 (len1 : Int)) hHeld rfl rfl (by kernel_rfl) (by kernel_rfl) (by kernel_rfl) (fun _ _ _ h => h) (Or.inl ⟨by rfl, fun w _ => by go_simp⟩) ?_
  simp only [Act.put, List.setIfInBounds_toArray, List.set_cons_zero, List.set_cons_succ]
  refine takeH 19 41 (.slice (some ⟨gm, 0, none⟩) len1 cm) hHeld rfl rfl (by kernel_rfl) (by kernel_rfl) (by kernel_rfl) (fun _ _ _ h => h) (Or.inl ⟨by rfl, fun w _ => run_op rfl (sl_to gm (len1 + 1) cm len1 (len1 : Int) rfl (by omega) w)⟩) ?_
  simp only [Act.put, List.setIfInBounds_toArray, List.set_cons_zero, List.set_cons_succ]
  refine takeH 21 43 (.agg (u8s (mc xs ys)).toArray) hHeld rfl rfl (by kernel_rfl) (by kernel_rfl) (by kernel_rfl) (fun _ _ _ h => h) (yieldsIf_load_mid (by rfl) _ _ rfl g7 0 rfl _ _ (fun w h => h) hu rfl hi) ?_
  simp only [Act.put, List.setIfInBounds_toArray, List.set_cons_zero, List.set_cons_succ]
  refine wpAnyH_ready (rs := [20]) (by kernel_rfl) (by simp) (AllReadyH.cons rfl (fun K hK => ?_) AllReadyH.nil)
  rw [if_pos (by rfl)]
  go_simp
  refine (extract_any _ _ _ xs _ _ _ ys _ (PK6.out.below B1.out) (PM6.out.below B1.out) (K6.out.below B1.out K6.out.lt)).mono ?_
  rintro e v2 ⟨rfl, hv2⟩
  have B2 := hide (B1.out.trans (hv2.mono B1.out.size))
  refine hK.out _ _ ((G6.out.below B2.out G6.out.lt).range 0 _ (by simp)) (fun hHeld => ?_)
  clear hK K
  clear hv2
  refine takeH 22 44 (.bool true) hHeld rfl rfl (by kernel_rfl) (by kernel_rfl) (by kernel_rfl) (fun _ _ _ h => h) (Or.inl ⟨by rfl, fun v _ => run_eqT aD _ rfl rfl (mc_length xs ys)⟩) ?_
  simp only [Act.put, List.setIfInBounds_toArray, List.set_cons_zero, List.set_cons_succ]
  refine takeH 23 45 (.bool true) hHeld rfl rfl (by kernel_rfl) (by kernel_rfl) (by kernel_rfl) (fun _ _ _ h => h) (Or.inl ⟨by rfl, fun w _ => by go_simp⟩) ?_
  simp only [Act.put, List.setIfInBounds_toArray, List.set_cons_zero, List.set_cons_succ]
  refine takeH 24 8 (.bool true) hHeld rfl rfl (by kernel_rfl) (by kernel_rfl) (by kernel_rfl) (fun _ _ _ h => h) (Or.inl ⟨by rfl, fun w _ => by go_simp⟩) ?_
  simp only [Act.put, List.setIfInBounds_toArray, List.set_cons_zero, List.set_cons_succ]
  refine wpAnyH_done (by kernel_rfl) ?_ _
  refine NoPanic.normal ?_
  clear hHeld hu hi
  have IKz := hide (IK6.out.below B2.out)
  have IMz := hide (IM6.out.below B2.out)
  have Sz := hide (S6.out.below B2.out)
  have Yz := hide (Y6.out.below B2.out)
  have HBz := hide (HB6.out.trans (B2.out.mono HB6.out.size))
  have hss : (str xs).size ≤ 140737488351232 := by rw [str_size, HX.out]; omega
  have hss1 : (str ys).size ≤ 140737488351232 := by rw [str_size, HY.out]; omega
  have hse := str_5a xs
  have hse1 := str_5a ys
  clear S6 Y6 IK6 IM6 PK6 PM6 G6 K6 B0 B1 B2
  go_wp2_with (first | (refine step_toStr rfl rfl IKz.out ?_) | (refine step_toStr rfl rfl IMz.out ?_) | (refine step_toStr rfl rfl Sz.out ?_) | (refine step_toStr rfl rfl Yz.out ?_))
  go_ret
  exact ⟨rfl, HBz.out⟩

end Go.Proofs.YtefaabmkcgdkiaaDoor
