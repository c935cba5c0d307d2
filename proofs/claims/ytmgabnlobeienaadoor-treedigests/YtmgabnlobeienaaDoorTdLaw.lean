/-
  The walk of TreeDigests.
-/
import Derived.Test.YtmgabnlobeienaaDoorTm
namespace Go.Proofs.YtmgabnlobeienaaDoor
open Go.RowKit
set_option linter.unusedVariables false

set_option maxRecDepth 100000 in
set_option maxHeartbeats 4000000 in
theorem digests_walk (a : Option Addr) (len cap : Nat) (xs l r : List Int) (w : World) (hs : Sl w a len cap xs) (hl : cap ≤ 140737488351232) (hll : l.length = 32) (hlw : ∀ x ∈ l, (Lit.int .u8 x).wf = true) (hrl : r.length = 32) (hrw : ∀ x ∈ r, (Lit.int .u8 x).wf = true) (hk : KT w) :
    Calls Tryd.prog 3 #[.slice a len cap, .agg (u8s l).toArray, .agg (u8s r).toArray] w fun e w' => e = .returned (.bool true) ∧ Below w.heap.size w w' := by
  have HS := hide hs
  have HK := hide hk
  have hcap := hs.hcap
  have HX := hide hs.hlen
  have HXB := hide hs.hbyte
  have HLL := hide hll
  have HRL := hide hrl
  have HLB := hide (isB_of_wf hlw)
  have HRB := hide (isB_of_wf hrw)
  have HI1 : Hid ((Tryd.prog.info? 24).map (·.size) = some (u8s l).length) := hide (by rw [wD.size, u8s_length, hll])
  have HI2 : Hid ((Tryd.prog.info? 24).map (·.size) = some (u8s r).length) := hide (by rw [wD.size, u8s_length, hrl])
  clear hs hk hll hrl hlw hrw
  obtain ⟨sk, HSK⟩ : ∃ sk, Hid (spK len = sk) := ⟨_, hide rfl⟩
  obtain ⟨se, HSE⟩ : ∃ se, Hid (spE len = se) := ⟨_, hide rfl⟩
  go_enter Tryd.func3, Tryd.ntmps3
  go_wp2_with (refine step_box rfl rfl ?_)
  intro wa g4 hra hla hba
  have GL := hide hra
  clear hra
  go_wp2_with (refine step_box rfl rfl ?_)
  intro wb1 g5 hrb hlb hbb
  have GLb := hide (GL.out.below hbb GL.out.lt)
  have GRb := hide hrb
  have Bb := hide (hba.trans (hbb.mono hba.size))
  have Sb := hide (HS.out.below Bb.out)
  clear hrb hba hbb GL hla hlb
  go_wp2_with fail
  refine (split_all len _ (by omega)).mono ?_
  rintro e wq ⟨rfl, rfl⟩
  rw [HSK.out, HSE.out]
  go_wp2_with fail
  refine (splitR_all len _ (by omega)).mono ?_
  rintro e wp1 ⟨rfl, rfl⟩
  rw [HSK.out, HSE.out]
  have ho0 : Own (wp1.alloc (.cells #[] 5)) wp1.heap.size (.slice (some ⟨wp1.heap.size, 0, none⟩) 0 0) [] := Own.of_blk (xs := []) (Blk.made wp1 5 []) (Nat.le_refl _) (by simp)
  have hb0 : Below wp1.heap.size wp1 (wp1.alloc (.cells #[] 5)) := (Below.refl _ _).alloc (Nat.le_refl _) _
  go_wp2_with (refine step_append rfl rfl rfl ho0 (Sb.out.below hb0) (by simp; omega) (by simp) ?_)
  intro v1 w1 ho1 hg1 hn1
  have hb1 : Below wp1.heap.size wp1 w1 := hb0.trans (Below.of_grown hg1 hb0.size ho0.lt)
  have hv1n : v1 ≠ .slice none 0 0 := fun e => by have e2 := (hn1 e).1; cases e2
  clear hg1 hn1 ho0 hb0
  have HO1 := hide ho1
  clear ho1
  go_wp2_with (refine step_append rfl rfl rfl (HO1.out.alloc _) (one_slB _ 90 (by omega)) (by simp [HX.out]; omega) (by have := hb1.size; simp; omega) ?_)
  intro v2 w2 ho2 hg2 hn2
  have B2 := hide ((hb1.alloc hb1.size _).trans (Below.of_grown hg2 (by have := hb1.size; simp; omega) HO1.out.lt))
  have hv2n : v2 ≠ .slice none 0 0 := fun e => hv1n (hn2 e).1
  clear hg2 hn2 HO1
  rw [List.nil_append] at ho2
  obtain ⟨gk, ck, rfl, _, hin⟩ := ho2.sl (HXB.out.append (by simp [isB])) (by simp [HX.out]; omega) hv2n
  have hlx : (xs ++ [90]).length = len + 1 := by simp [HX.out]
  rw [hlx] at hin ⊢
  clear hlx
  have hkc := hin.hcap
  have hkm := hin.hmax
  have IK := hide hin
  have hpre := hin.take len (by omega)
  rw [List.take_append_of_le_length (by rw [HX.out]; exact Nat.le_refl _), List.take_of_length_le (by rw [HX.out]; exact Nat.le_refl _)] at hpre
  have PK := hide hpre
  clear hin hpre ho2 hv1n hv2n hb1
  have HB2 := hide (Bb.out.trans (B2.out.mono Bb.out.size))
  have S2 := hide (HS.out.below HB2.out)
  have K2 := hide (HK.out.below HB2.out HK.out.lt)
  have GL2 := hide (GLb.out.below B2.out GLb.out.lt)
  have GR2 := hide (GRb.out.below B2.out GRb.out.lt)
  clear GLb GRb Sb B2 Bb
  have hss : (str xs).size ≤ 140737488351232 := by rw [str_size, HX.out]; omega
  have hse := str_90t xs
  have hu := aD.und
  have hSS : ∀ v : World, Below w2.heap.size w2 v → v.rangeAt g4 0 (u8s l) ∧ v.rangeAt g5 0 (u8s r) ∧ Sl v (some ⟨gk, 0, none⟩) (len + 1) ck (xs ++ [90]) ∧ Sl v a len cap xs := fun v hv =>
    ⟨(GL2.out.below hv GL2.out.lt).range 0 _ (by simp), (GR2.out.below hv GR2.out.lt).range 0 _ (by simp), IK.out.below hv, S2.out.below hv⟩
  go_wp2_with fail
  refine wp_region_noPanic ?_
  have B0 := hide ((Below.refl w2.heap.size w2).drew)
  refine wp_region_held_drew (S := fun v : World => v.rangeAt g4 0 (u8s l) ∧ v.rangeAt g5 0 (u8s r) ∧ Sl v (some ⟨gk, 0, none⟩) (len + 1) ck (xs ++ [90]) ∧ Sl v a len cap xs) (by kernel_rfl) (hSS _ B0.out) (fun hHeld => ?_)
  refine takeH 0 30 (.slice (some ⟨gk, 0, none⟩) (len + 1) ck) hHeld rfl rfl (by kernel_rfl) (by kernel_rfl) (by kernel_rfl) (fun _ _ _ h => h) (Or.inl ⟨by rfl, fun w _ => by go_simp⟩) ?_
  simp only [Act.put, List.setIfInBounds_toArray, List.set_cons_zero, List.set_cons_succ]
  refine takeH 1 31 (.int .i64 (len : Int)) hHeld rfl rfl (by kernel_rfl) (by kernel_rfl) (by kernel_rfl) (fun _ _ _ h => h) (Or.inl ⟨by rfl, fun w _ => by go_simp⟩) ?_
  simp only [Act.put, List.setIfInBounds_toArray, List.set_cons_zero, List.set_cons_succ]
  refine takeH 2 32 (.slice (some ⟨gk, 0, none⟩) len ck) hHeld rfl rfl (by kernel_rfl) (by kernel_rfl) (by kernel_rfl) (fun _ _ _ h => h) (Or.inl ⟨by rfl, fun w _ => run_op rfl (sl_to gk (len + 1) ck len (len : Int) rfl (by omega) w)⟩) ?_
  simp only [Act.put, List.setIfInBounds_toArray, List.set_cons_zero, List.set_cons_succ]
  refine takeH 4 34 (.slice a len cap) hHeld rfl rfl (by kernel_rfl) (by kernel_rfl) (by kernel_rfl) (fun _ _ _ h => h) (Or.inl ⟨by rfl, fun w _ => by go_simp⟩) ?_
  simp only [Act.put, List.setIfInBounds_toArray, List.set_cons_zero, List.set_cons_succ]
  refine wpAnyH_ready (rs := [3]) (by kernel_rfl) (by simp) (AllReadyH.cons rfl (fun K hK => ?_) AllReadyH.nil)
  rw [if_pos (by rfl)]
  go_simp
  refine (leaf_any _ _ _ xs _ (PK.out.below B0.out) (by omega) (K2.out.below B0.out K2.out.lt)).mono ?_
  rintro e v1 ⟨rfl, hv1⟩
  have B1 := hide (B0.out.trans (hv1.mono B0.out.size))
  refine hK.out _ _ (hSS _ B1.out) (fun hHeld => ?_)
  clear hK K
  clear hv1
  refine wpAnyH_ready (rs := [5]) (by kernel_rfl) (by simp) (AllReadyH.cons rfl (fun K hK => ?_) AllReadyH.nil)
  rw [if_pos (by rfl)]
  go_simp
  refine (leafR_any _ _ _ xs _ (S2.out.below B1.out) (by omega)).mono ?_
  rintro e v2 ⟨rfl, hv2⟩
  have B2 := hide (B1.out.trans (hv2.mono B1.out.size))
  refine hK.out _ _ (hSS _ B2.out) (fun hHeld => ?_)
  clear hK K
  clear hv2
  refine takeH 6 36 (.bool true) hHeld rfl rfl (by kernel_rfl) (by kernel_rfl) (by kernel_rfl) (fun _ _ _ h => h) (Or.inl ⟨by rfl, fun v _ => run_eqT aD _ rfl rfl (lf_length xs)⟩) ?_
  simp only [Act.put, List.setIfInBounds_toArray, List.set_cons_zero, List.set_cons_succ]
  refine takeH 7 37 (.bool true) hHeld rfl rfl (by kernel_rfl) (by kernel_rfl) (by kernel_rfl) (fun _ _ _ h => h) (Or.inl ⟨by rfl, fun w _ => by go_simp⟩) ?_
  simp only [Act.put, List.setIfInBounds_toArray, List.set_cons_zero, List.set_cons_succ]
  refine takeH 8 38 (.slice (some ⟨gk, 0, none⟩) (len + 1) ck) hHeld rfl rfl (by kernel_rfl) (by kernel_rfl) (by kernel_rfl) (fun _ _ _ h => h) (Or.inl ⟨by rfl, fun w _ => by go_simp⟩) ?_
  simp only [Act.put, List.setIfInBounds_toArray, List.set_cons_zero, List.set_cons_succ]
  refine takeH 9 39 (.string (str (xs ++ [90]))) hHeld rfl rfl (by kernel_rfl) (by kernel_rfl) (by kernel_rfl) (fun _ _ _ h => h) (Or.inl ⟨by rfl, fun v hv => run_op rfl (toStr hv.2.2.1)⟩) ?_
  simp only [Act.put, List.setIfInBounds_toArray, List.set_cons_zero, List.set_cons_succ]
  refine takeH 10 40 (.slice a len cap) hHeld rfl rfl (by kernel_rfl) (by kernel_rfl) (by kernel_rfl) (fun _ _ _ h => h) (Or.inl ⟨by rfl, fun w _ => by go_simp⟩) ?_
  simp only [Act.put, List.setIfInBounds_toArray, List.set_cons_zero, List.set_cons_succ]
  refine takeH 11 41 (.string (str xs)) hHeld rfl rfl (by kernel_rfl) (by kernel_rfl) (by kernel_rfl) (fun _ _ _ h => h) (Or.inl ⟨by rfl, fun v hv => run_op rfl (toStr hv.2.2.2)⟩) ?_
  simp only [Act.put, List.setIfInBounds_toArray, List.set_cons_zero, List.set_cons_succ]
  refine takeH 12 42 (.string (str (xs ++ [90]))) hHeld rfl rfl (by kernel_rfl) (by kernel_rfl) (by kernel_rfl) (fun _ _ _ h => h) (Or.inl ⟨by rfl, fun w _ => by go_simp; omega⟩) ?_
  simp only [Act.put, List.setIfInBounds_toArray, List.set_cons_zero, List.set_cons_succ]
  refine takeH 13 43 (.bool true) hHeld rfl rfl (by kernel_rfl) (by kernel_rfl) (by kernel_rfl) (fun _ _ _ h => h) (Or.inl ⟨by rfl, fun w _ => by go_simp⟩) ?_
  simp only [Act.put, List.setIfInBounds_toArray, List.set_cons_zero, List.set_cons_succ]
  refine takeH 14 44 (.bool true) hHeld rfl rfl (by kernel_rfl) (by kernel_rfl) (by kernel_rfl) (fun _ _ _ h => h) (Or.inl ⟨by rfl, fun w _ => by go_simp⟩) ?_
  simp only [Act.put, List.setIfInBounds_toArray, List.set_cons_zero, List.set_cons_succ]
  refine takeH 15 45 (.bool true) hHeld rfl rfl (by kernel_rfl) (by kernel_rfl) (by kernel_rfl) (fun _ _ _ h => h) (Or.inl ⟨by rfl, fun w _ => by go_simp⟩) ?_
  simp only [Act.put, List.setIfInBounds_toArray, List.set_cons_zero, List.set_cons_succ]
  refine takeH 16 46 (.agg (u8s l).toArray) hHeld rfl rfl (by kernel_rfl) (by kernel_rfl) (by kernel_rfl) (fun _ _ _ h => h) (yieldsIf_load_mid (by rfl) _ _ rfl g4 0 rfl _ _ (fun w h => h.1) hu rfl HI1.out) ?_
  simp only [Act.put, List.setIfInBounds_toArray, List.set_cons_zero, List.set_cons_succ]
  refine takeH 17 47 (.agg (u8s r).toArray) hHeld rfl rfl (by kernel_rfl) (by kernel_rfl) (by kernel_rfl) (fun _ _ _ h => h) (yieldsIf_load_mid (by rfl) _ _ rfl g5 0 rfl _ _ (fun w h => h.2.1) hu rfl HI2.out) ?_
  simp only [Act.put, List.setIfInBounds_toArray, List.set_cons_zero, List.set_cons_succ]
  refine takeH 19 49 (.agg (u8s l).toArray) hHeld rfl rfl (by kernel_rfl) (by kernel_rfl) (by kernel_rfl) (fun _ _ _ h => h) (yieldsIf_load_mid (by rfl) _ _ rfl g4 0 rfl _ _ (fun w h => h.1) hu rfl HI1.out) ?_
  simp only [Act.put, List.setIfInBounds_toArray, List.set_cons_zero, List.set_cons_succ]
  refine takeH 20 50 (.agg (u8s r).toArray) hHeld rfl rfl (by kernel_rfl) (by kernel_rfl) (by kernel_rfl) (fun _ _ _ h => h) (yieldsIf_load_mid (by rfl) _ _ rfl g5 0 rfl _ _ (fun w h => h.2.1) hu rfl HI2.out) ?_
  simp only [Act.put, List.setIfInBounds_toArray, List.set_cons_zero, List.set_cons_succ]
  refine wpAnyH_ready (rs := [18]) (by kernel_rfl) (by simp) (AllReadyH.cons rfl (fun K hK => ?_) AllReadyH.nil)
  rw [if_pos (by rfl)]
  go_simp
  refine (node_any l r _ HLL.out HLB.out HRL.out HRB.out (K2.out.below B2.out K2.out.lt)).mono ?_
  rintro e v3 ⟨rfl, hv3⟩
  have B3 := hide (B2.out.trans (hv3.mono B2.out.size))
  refine hK.out _ _ (hSS _ B3.out) (fun hHeld => ?_)
  clear hK K
  clear hv3
  refine wpAnyH_ready (rs := [21]) (by kernel_rfl) (by simp) (AllReadyH.cons rfl (fun K hK => ?_) AllReadyH.nil)
  rw [if_pos (by rfl)]
  go_simp
  refine (nodeR_any l r _ HLL.out HLB.out HRL.out HRB.out).mono ?_
  rintro e v4 ⟨rfl, hv4⟩
  have B4 := hide (B3.out.trans (hv4.mono B3.out.size))
  refine hK.out _ _ (hSS _ B4.out) (fun hHeld => ?_)
  clear hK K
  clear hv4
  refine takeH 22 52 (.bool true) hHeld rfl rfl (by kernel_rfl) (by kernel_rfl) (by kernel_rfl) (fun _ _ _ h => h) (Or.inl ⟨by rfl, fun v _ => run_eqT aD _ rfl rfl (nd_length l r)⟩) ?_
  simp only [Act.put, List.setIfInBounds_toArray, List.set_cons_zero, List.set_cons_succ]
  refine takeH 23 53 (.bool true) hHeld rfl rfl (by kernel_rfl) (by kernel_rfl) (by kernel_rfl) (fun _ _ _ h => h) (Or.inl ⟨by rfl, fun w _ => by go_simp⟩) ?_
  simp only [Act.put, List.setIfInBounds_toArray, List.set_cons_zero, List.set_cons_succ]
  refine takeH 24 54 (.bool true) hHeld rfl rfl (by kernel_rfl) (by kernel_rfl) (by kernel_rfl) (fun _ _ _ h => h) (Or.inl ⟨by rfl, fun w _ => by go_simp⟩) ?_
  simp only [Act.put, List.setIfInBounds_toArray, List.set_cons_zero, List.set_cons_succ]
  refine wpAnyH_ready (rs := [25]) (by kernel_rfl) (by simp) (AllReadyH.cons rfl (fun K hK => ?_) AllReadyH.nil)
  rw [if_pos (by rfl)]
  go_simp
  refine (empty_any _ (K2.out.below B4.out K2.out.lt)).mono ?_
  rintro e v5 ⟨rfl, hv5⟩
  have B5 := hide (B4.out.trans (hv5.mono B4.out.size))
  refine hK.out _ _ (hSS _ B5.out) (fun hHeld => ?_)
  clear hK K
  clear hv5
  refine wpAnyH_ready (rs := [26]) (by kernel_rfl) (by simp) (AllReadyH.cons rfl (fun K hK => ?_) AllReadyH.nil)
  rw [if_pos (by rfl)]
  go_simp
  refine (emptyR_any _).mono ?_
  rintro e v6 ⟨rfl, hv6⟩
  have B6 := hide (B5.out.trans (hv6.mono B5.out.size))
  refine hK.out _ _ (hSS _ B6.out) (fun hHeld => ?_)
  clear hK K
  clear hv6
  refine takeH 27 57 (.bool true) hHeld rfl rfl (by kernel_rfl) (by kernel_rfl) (by kernel_rfl) (fun _ _ _ h => h) (Or.inl ⟨by rfl, fun v _ => run_eqT aD _ rfl rfl emp_length⟩) ?_
  simp only [Act.put, List.setIfInBounds_toArray, List.set_cons_zero, List.set_cons_succ]
  refine takeH 28 58 (.bool true) hHeld rfl rfl (by kernel_rfl) (by kernel_rfl) (by kernel_rfl) (fun _ _ _ h => h) (Or.inl ⟨by rfl, fun w _ => by go_simp⟩) ?_
  simp only [Act.put, List.setIfInBounds_toArray, List.set_cons_zero, List.set_cons_succ]
  refine takeH 29 59 (.bool true) hHeld rfl rfl (by kernel_rfl) (by kernel_rfl) (by kernel_rfl) (fun _ _ _ h => h) (Or.inl ⟨by rfl, fun w _ => by go_simp⟩) ?_
  simp only [Act.put, List.setIfInBounds_toArray, List.set_cons_zero, List.set_cons_succ]
  refine takeH 30 60 (.int .i64 sk) hHeld rfl rfl (by kernel_rfl) (by kernel_rfl) (by kernel_rfl) (fun _ _ _ h => h) (Or.inl ⟨by rfl, fun w _ => by go_simp⟩) ?_
  simp only [Act.put, List.setIfInBounds_toArray, List.set_cons_zero, List.set_cons_succ]
  refine takeH 31 61 (.int .i64 sk) hHeld rfl rfl (by kernel_rfl) (by kernel_rfl) (by kernel_rfl) (fun _ _ _ h => h) (Or.inl ⟨by rfl, fun w _ => by go_simp⟩) ?_
  simp only [Act.put, List.setIfInBounds_toArray, List.set_cons_zero, List.set_cons_succ]
  refine takeH 32 62 (.bool true) hHeld rfl rfl (by kernel_rfl) (by kernel_rfl) (by kernel_rfl) (fun _ _ _ h => h) (Or.inl ⟨by rfl, fun w _ => by go_simp⟩) ?_
  simp only [Act.put, List.setIfInBounds_toArray, List.set_cons_zero, List.set_cons_succ]
  refine takeH 33 63 (.bool true) hHeld rfl rfl (by kernel_rfl) (by kernel_rfl) (by kernel_rfl) (fun _ _ _ h => h) (Or.inl ⟨by rfl, fun w _ => by go_simp⟩) ?_
  simp only [Act.put, List.setIfInBounds_toArray, List.set_cons_zero, List.set_cons_succ]
  refine takeH 34 64 (.bool true) hHeld rfl rfl (by kernel_rfl) (by kernel_rfl) (by kernel_rfl) (fun _ _ _ h => h) (Or.inl ⟨by rfl, fun w _ => by go_simp⟩) ?_
  simp only [Act.put, List.setIfInBounds_toArray, List.set_cons_zero, List.set_cons_succ]
  refine takeH 35 65 (.int .i64 se) hHeld rfl rfl (by kernel_rfl) (by kernel_rfl) (by kernel_rfl) (fun _ _ _ h => h) (Or.inl ⟨by rfl, fun w _ => by go_simp⟩) ?_
  simp only [Act.put, List.setIfInBounds_toArray, List.set_cons_zero, List.set_cons_succ]
  refine takeH 36 66 (.int .i64 se) hHeld rfl rfl (by kernel_rfl) (by kernel_rfl) (by kernel_rfl) (fun _ _ _ h => h) (Or.inl ⟨by rfl, fun w _ => by go_simp⟩) ?_
  simp only [Act.put, List.setIfInBounds_toArray, List.set_cons_zero, List.set_cons_succ]
  refine takeH 37 67 (.bool true) hHeld rfl rfl (by kernel_rfl) (by kernel_rfl) (by kernel_rfl) (fun _ _ _ h => h) (Or.inl ⟨by rfl, fun w _ => by go_simp⟩) ?_
  simp only [Act.put, List.setIfInBounds_toArray, List.set_cons_zero, List.set_cons_succ]
  refine takeH 38 68 (.bool true) hHeld rfl rfl (by kernel_rfl) (by kernel_rfl) (by kernel_rfl) (fun _ _ _ h => h) (Or.inl ⟨by rfl, fun w _ => by go_simp⟩) ?_
  simp only [Act.put, List.setIfInBounds_toArray, List.set_cons_zero, List.set_cons_succ]
  refine takeH 39 69 (.bool true) hHeld rfl rfl (by kernel_rfl) (by kernel_rfl) (by kernel_rfl) (fun _ _ _ h => h) (Or.inl ⟨by rfl, fun w _ => by go_simp⟩) ?_
  simp only [Act.put, List.setIfInBounds_toArray, List.set_cons_zero, List.set_cons_succ]
  refine wpAnyH_ready (rs := [40]) (by kernel_rfl) (by simp) (AllReadyH.cons rfl (fun K hK => ?_) AllReadyH.nil)
  rw [if_pos (by rfl)]
  go_simp
  refine (names4_any _).mono ?_
  rintro e v7 ⟨rfl, rfl⟩
  refine hK.out _ _ (hSS _ B6.out) (fun hHeld => ?_)
  clear hK K
  refine takeH 41 71 (.bool true) hHeld rfl rfl (by kernel_rfl) (by kernel_rfl) (by kernel_rfl) (fun _ _ _ h => h) (Or.inl ⟨by rfl, fun w _ => by go_simp⟩) ?_
  simp only [Act.put, List.setIfInBounds_toArray, List.set_cons_zero, List.set_cons_succ]
  refine takeH 42 6 (.bool true) hHeld rfl rfl (by kernel_rfl) (by kernel_rfl) (by kernel_rfl) (fun _ _ _ h => h) (Or.inl ⟨by rfl, fun w _ => by go_simp⟩) ?_
  simp only [Act.put, List.setIfInBounds_toArray, List.set_cons_zero, List.set_cons_succ]
  refine wpAnyH_done (by kernel_rfl) ?_ _
  refine NoPanic.normal ?_
  clear hHeld
  go_wp2
  go_ret
  exact ⟨rfl, HB2.out.trans (B6.out.mono HB2.out.size)⟩

end Go.Proofs.YtmgabnlobeienaaDoor
