/-
  The program's and the document's Root.
-/
import Derived.Test.YtnlpgkfmjlljdaaDoorDg
namespace Go.Proofs.YtnlpgkfmjlljdaaDoor
open Go.RowKit
set_option linter.unusedVariables false

set_option maxHeartbeats 1000000 in
theorem root_0 (a : Option Addr) (cap : Nat) (xs : List Int) (w : World) (hs : Ds w a 0 cap xs) (hk : KT w) :
    Calls Tryd.prog 30 #[.slice a 0 cap] w fun e w' => e = .returned (.agg (u8s (root xs)).toArray) ∧ Below w.heap.size w w' := by
  have HK := hide hk
  clear hk
  have hx0 : xs.length = 0 := hs.hlen
  have HX := hide hx0
  have HML := hide (show (u8s emp).length = 32 by rw [u8s_length, emp_length])
  have ER := hide (root_zero hx0)
  rw [ER.out]
  clear hs hx0
  go_enter Tryd.func30, Tryd.ntmps30
  go_wp2_with (refine step_alloc zD rfl ?_)
  intro w1 g1 hg1 hle1 hb1
  have G1 := hide hg1
  have HB1 := hide hb1
  clear hg1 hb1
  go_wp2_with fail
  refine (empty_any _ (HK.out.below HB1.out HK.out.lt)).mono ?_
  rintro e w3 ⟨rfl, hb3⟩
  have G3 := hide (G1.out.below hb3 G1.out.lt)
  go_wp2_with (refine step_storeA wD rfl rfl rfl G3.out HML.out (One.u8 _) rfl ?_; intro w4 hg4 hbut4)
  refine bodyPost_ret (results_wide rfl wD _ _ rfl hg4 HML.out) rfl ⟨rfl, ?_⟩
  exact (HB1.out.trans (hb3.mono HB1.out.size)).trans (hbut4.below hle1)
set_option maxHeartbeats 1000000 in
theorem rootR_0 (a : Option Addr) (cap : Nat) (xs : List Int) (w : World) (hs : Ds w a 0 cap xs) :
    Calls Tryd.prog 33 #[.slice a 0 cap] w fun e w' => e = .returned (.agg (u8s (root xs)).toArray) ∧ Below w.heap.size w w' := by
  have hx0 : xs.length = 0 := hs.hlen
  have HX := hide hx0
  have HML := hide (show (u8s emp).length = 32 by rw [u8s_length, emp_length])
  have ER := hide (root_zero hx0)
  rw [ER.out]
  clear hs hx0
  go_enter Tryd.func33, Tryd.ntmps33
  go_wp2_with (refine step_alloc zD rfl ?_)
  intro w1 g1 hg1 hle1 hb1
  have G1 := hide hg1
  have HB1 := hide hb1
  clear hg1 hb1
  go_wp2_with fail
  refine (emptyR_any _).mono ?_
  rintro e w3 ⟨rfl, hb3⟩
  have G3 := hide (G1.out.below hb3 G1.out.lt)
  go_wp2_with (refine step_storeA wD rfl rfl rfl G3.out HML.out (One.u8 _) rfl ?_; intro w4 hg4 hbut4)
  refine bodyPost_ret (results_wide rfl wD _ _ rfl hg4 HML.out) rfl ⟨rfl, ?_⟩
  exact (HB1.out.trans (hb3.mono HB1.out.size)).trans (hbut4.below hle1)

set_option maxHeartbeats 1000000 in
theorem root_1 (a : Option Addr) (cap : Nat) (xs : List Int) (w : World) (hs : Ds w a 1 cap xs) :
    Calls Tryd.prog 30 #[.slice a 1 cap] w fun e w' => e = .returned (.agg (u8s (root xs)).toArray) ∧ Below w.heap.size w w' := by
  have hx0 : xs.length = 32 := by have := hs.hlen; omega
  have HX := hide hx0
  have ER := hide (root_one hx0)
  rw [ER.out]
  have HS := hide hs
  obtain ⟨b, o, rfl⟩ := hs.place (by omega)
  have HML := hide (show (u8s xs).length = 32 by rw [u8s_length, hx0])
  have hat := d_at b o 1 cap 0 0 rfl (by omega)
  have ED := hide (show dat xs 0 = xs by rw [dat, Nat.mul_zero, List.drop_zero, List.take_of_length_le (by omega)])
  clear hs hx0
  go_enter Tryd.func30, Tryd.ntmps30
  go_wp2_with (refine step_alloc zD rfl ?_)
  intro w1 g1 hg1 hle1 hb1
  have G1 := hide hg1
  have HB1 := hide hb1
  have hrg := (HS.out.below hb1).range 0 (by omega)
  rw [ED.out] at hrg
  have HRG := hide hrg
  clear hg1 hb1 hrg
  go_wp2_with (first | (refine step_loadR wD rfl rfl _ HRG.out HML.out ?_) | (refine step_storeA wD rfl rfl rfl G1.out HML.out (One.u8 _) rfl ?_; intro w4 hg4 hbut4))
  refine bodyPost_ret (results_wide rfl wD _ _ rfl hg4 HML.out) rfl ⟨rfl, ?_⟩
  exact HB1.out.trans (hbut4.below hle1)
set_option maxHeartbeats 1000000 in
theorem rootR_1 (a : Option Addr) (cap : Nat) (xs : List Int) (w : World) (hs : Ds w a 1 cap xs) :
    Calls Tryd.prog 33 #[.slice a 1 cap] w fun e w' => e = .returned (.agg (u8s (root xs)).toArray) ∧ Below w.heap.size w w' := by
  have hx0 : xs.length = 32 := by have := hs.hlen; omega
  have HX := hide hx0
  have ER := hide (root_one hx0)
  rw [ER.out]
  have HS := hide hs
  obtain ⟨b, o, rfl⟩ := hs.place (by omega)
  have HML := hide (show (u8s xs).length = 32 by rw [u8s_length, hx0])
  have hat := d_at b o 1 cap 0 0 rfl (by omega)
  have ED := hide (show dat xs 0 = xs by rw [dat, Nat.mul_zero, List.drop_zero, List.take_of_length_le (by omega)])
  clear hs hx0
  go_enter Tryd.func33, Tryd.ntmps33
  go_wp2_with (refine step_alloc zD rfl ?_)
  intro w1 g1 hg1 hle1 hb1
  have G1 := hide hg1
  have HB1 := hide hb1
  have hrg := (HS.out.below hb1).range 0 (by omega)
  rw [ED.out] at hrg
  have HRG := hide hrg
  clear hg1 hb1 hrg
  go_wp2_with (first | (refine step_loadR wD rfl rfl _ HRG.out HML.out ?_) | (refine step_storeA wD rfl rfl rfl G1.out HML.out (One.u8 _) rfl ?_; intro w4 hg4 hbut4))
  refine bodyPost_ret (results_wide rfl wD _ _ rfl hg4 HML.out) rfl ⟨rfl, ?_⟩
  exact HB1.out.trans (hbut4.below hle1)

set_option maxRecDepth 100000 in
set_option maxHeartbeats 4000000 in
theorem root_any : ∀ (m : Nat) (a : Option Addr) (n cap : Nat) (xs : List Int) (w : World), n ≤ m → Ds w a n cap xs → KT w →
    Calls Tryd.prog 30 #[.slice a n cap] w fun e w' => e = .returned (.agg (u8s (root xs)).toArray) ∧ Below w.heap.size w w' := by
  intro m
  induction m with
  | zero => intro a n cap xs w hm hs hk; obtain rfl : n = 0 := by omega
            exact root_0 a cap xs w hs hk
  | succ m ih =>
    intro a n cap xs w hm hs hk
    by_cases h0 : n = 0
    · subst h0; exact root_0 a cap xs w hs hk
    by_cases h1 : n = 1
    · subst h1; exact root_1 a cap xs w hs
    have h2 : 2 ≤ n := by omega
    have HK := hide hk
    clear hk
    have hx := hs.hlen
    have hcap := hs.hcap
    have hmax := hs.hmax
    have hre := hs.hreach
    have hbd := hf_bd n h2 (by omega)
    have HS := hide hs
    obtain ⟨b, o, rfl⟩ := hs.place (by omega)
    have ER := hide (root_node hx h2 (by omega))
    have HDL := hide (show Ds w (some ⟨b, o, none⟩) (hf n) cap (lo xs) by rw [lo_eq hx]; exact hs.take (hf n) (by omega))
    have HDH := hide (show Ds w (some ⟨b, o + 32 * hf n, none⟩) (n - hf n) (cap - hf n) (hi xs) by rw [hi_eq hx]; exact hs.drop (hf n) (by omega))
    have LL := hide (root_length HDL.out.hlen HDL.out.hbyte)
    have LH := hide (root_length HDH.out.hlen HDH.out.hbyte)
    have BL := hide (root_isB HDL.out.hlen HDL.out.hbyte)
    have BH := hide (root_isB HDH.out.hlen HDH.out.hbyte)
    have HML := hide (show (u8s (root xs)).length = 32 by rw [u8s_length, root_length hx hs.hbyte])
    obtain ⟨k, HKE⟩ : ∃ k, Hid (hf n = k) := ⟨hf n, hide rfl⟩
    rw [HKE.out] at hbd HDL HDH
    have n0 : ¬ ((n : Int) = 0) := by omega
    have n1 : ¬ ((n : Int) = 1) := by omega
    clear hs hx
    go_enter Tryd.func30, Tryd.ntmps30
    go_wp2_with (refine step_alloc zD rfl ?_)
    intro w1 g1 hg1 hle1 hb1
    have G1 := hide hg1
    have HB1 := hide hb1
    clear hg1 hb1
    go_wp2_with fail
    refine (split_any n _ h2 (by omega)).mono ?_
    rintro e w2 ⟨rfl, rfl⟩
    rw [HKE.out]
    go_wp2_with fail
    refine wp_region_noPanic ?_
    have B0 := hide ((Below.refl w2.heap.size w2).drew)
    refine wp_region_held_drew (S := fun v : World => True) (by kernel_rfl) trivial (fun hHeld => ?_)
    refine takeH 0 21 (.slice (some ⟨b, o, none⟩) n cap) hHeld rfl rfl (by kernel_rfl) (by kernel_rfl) (by kernel_rfl) (fun _ _ _ h => h) (Or.inl ⟨by rfl, fun w _ => by go_simp⟩) ?_
    simp only [Act.put, List.setIfInBounds_toArray, List.set_cons_zero, List.set_cons_succ]
    refine takeH 1 22 (.int .i64 (k : Int)) hHeld rfl rfl (by kernel_rfl) (by kernel_rfl) (by kernel_rfl) (fun _ _ _ h => h) (Or.inl ⟨by rfl, fun w _ => by go_simp⟩) ?_
    simp only [Act.put, List.setIfInBounds_toArray, List.set_cons_zero, List.set_cons_succ]
    refine takeH 2 23 (.slice (some ⟨b, o, none⟩) k cap) hHeld rfl rfl (by kernel_rfl) (by kernel_rfl) (by kernel_rfl) (fun _ _ _ h => h) (Or.inl ⟨by rfl, fun w _ => run_op rfl (d_to b o n cap k (k : Int) rfl (by omega) w)⟩) ?_
    simp only [Act.put, List.setIfInBounds_toArray, List.set_cons_zero, List.set_cons_succ]
    refine takeH 4 25 (.slice (some ⟨b, o, none⟩) n cap) hHeld rfl rfl (by kernel_rfl) (by kernel_rfl) (by kernel_rfl) (fun _ _ _ h => h) (Or.inl ⟨by rfl, fun w _ => by go_simp⟩) ?_
    simp only [Act.put, List.setIfInBounds_toArray, List.set_cons_zero, List.set_cons_succ]
    refine takeH 5 26 (.int .i64 (k : Int)) hHeld rfl rfl (by kernel_rfl) (by kernel_rfl) (by kernel_rfl) (fun _ _ _ h => h) (Or.inl ⟨by rfl, fun w _ => by go_simp⟩) ?_
    simp only [Act.put, List.setIfInBounds_toArray, List.set_cons_zero, List.set_cons_succ]
    refine takeH 6 27 (.slice (some ⟨b, o + 32 * k, none⟩) (n - k) (cap - k)) hHeld rfl rfl (by kernel_rfl) (by kernel_rfl) (by kernel_rfl) (fun _ _ _ h => h) (Or.inl ⟨by rfl, fun w _ => run_op rfl (d_from b o n cap k (k : Int) rfl (by omega) (by omega) w)⟩) ?_
    simp only [Act.put, List.setIfInBounds_toArray, List.set_cons_zero, List.set_cons_succ]
    have B01 := hide (HB1.out.trans (B0.out.mono HB1.out.size))
    refine wpAnyH_ready (rs := [3]) (by kernel_rfl) (by simp) (AllReadyH.cons rfl (fun K hK => ?_) AllReadyH.nil)
    rw [if_pos (by rfl)]
    go_simp
    refine (ih _ _ _ (lo xs) _ (by omega) (HDL.out.below B01.out) (HK.out.below B01.out HK.out.lt)).mono ?_
    rintro e v1 ⟨rfl, hv1⟩
    have B1 := hide (B01.out.trans (hv1.mono B01.out.size))
    refine hK.out _ _ (trivial) (fun hHeld => ?_)
    clear hK K
    refine wpAnyH_ready (rs := [7]) (by kernel_rfl) (by simp) (AllReadyH.cons rfl (fun K hK => ?_) AllReadyH.nil)
    rw [if_pos (by rfl)]
    go_simp
    refine (ih _ _ _ (hi xs) _ (by omega) (HDH.out.below B1.out) (HK.out.below B1.out HK.out.lt)).mono ?_
    rintro e v2 ⟨rfl, hv2⟩
    have B2 := hide (B1.out.trans (hv2.mono B1.out.size))
    refine hK.out _ _ (trivial) (fun hHeld => ?_)
    clear hK K
    refine wpAnyH_ready (rs := [8]) (by kernel_rfl) (by simp) (AllReadyH.cons rfl (fun K hK => ?_) AllReadyH.nil)
    rw [if_pos (by rfl)]
    go_simp
    refine (node_any (root (lo xs)) (root (hi xs)) _ LL.out BL.out LH.out BH.out (HK.out.below B2.out HK.out.lt)).mono ?_
    rintro e v3 ⟨rfl, hv3⟩
    rw [← ER.out]
    have B3 := hide (B2.out.trans (hv3.mono B2.out.size))
    have G3 := hide (((((G1.out.below B0.out G1.out.lt).below hv1 (G1.out.below B0.out G1.out.lt).lt).below hv2 ((G1.out.below B0.out G1.out.lt).below hv1 (G1.out.below B0.out G1.out.lt).lt).lt)).below hv3 (((G1.out.below B0.out G1.out.lt).below hv1 (G1.out.below B0.out G1.out.lt).lt).below hv2 ((G1.out.below B0.out G1.out.lt).below hv1 (G1.out.below B0.out G1.out.lt).lt).lt).lt)
    refine hK.out _ _ (trivial) (fun hHeld => ?_)
    clear hK K
    refine wpAnyH_ready (rs := [9]) (by kernel_rfl) (by simp) (AllReadyH.cons rfl (fun K hK => ?_) AllReadyH.nil)
    rw [if_pos (by rfl)]
    refine wp_storeW wD rfl rfl rfl G3.out HML.out (One.u8 _) (by simp [u8s_length, zer_length]) ?_
    intro v5 hgs hbuts
    refine hK.out _ _ trivial (fun hHeld => ?_)
    clear hK K
    simp only [Act.put]
    refine wpAnyH_done (by kernel_rfl) ?_ _
    refine NoPanic.normal ?_
    clear hHeld
    have EZ : Hid (spl (u8s (zer 32)) (u8s (root xs)) 0 = u8s (root xs)) := hide (by
      unfold spl
      rw [List.drop_of_length_le (by rw [HML.out, u8s_length, zer_length]; omega)]
      simp)
    rw [EZ.out] at hgs
    go_wp2
    refine bodyPost_ret (results_wide rfl wD _ _ rfl hgs HML.out) rfl ⟨rfl, ?_⟩
    exact B3.out.trans (hbuts.below hle1)

set_option maxRecDepth 100000 in
set_option maxHeartbeats 4000000 in
theorem rootR_any : ∀ (m : Nat) (a : Option Addr) (n cap : Nat) (xs : List Int) (w : World), n ≤ m → Ds w a n cap xs →
    Calls Tryd.prog 33 #[.slice a n cap] w fun e w' => e = .returned (.agg (u8s (root xs)).toArray) ∧ Below w.heap.size w w' := by
  intro m
  induction m with
  | zero => intro a n cap xs w hm hs; obtain rfl : n = 0 := by omega
            exact rootR_0 a cap xs w hs
  | succ m ih =>
    intro a n cap xs w hm hs
    by_cases h0 : n = 0
    · subst h0; exact rootR_0 a cap xs w hs
    by_cases h1 : n = 1
    · subst h1; exact rootR_1 a cap xs w hs
    have h2 : 2 ≤ n := by omega
    have hx := hs.hlen
    have hcap := hs.hcap
    have hmax := hs.hmax
    have hre := hs.hreach
    have hbd := hf_bd n h2 (by omega)
    have HS := hide hs
    obtain ⟨b, o, rfl⟩ := hs.place (by omega)
    have ER := hide (root_node hx h2 (by omega))
    have HDL := hide (show Ds w (some ⟨b, o, none⟩) (hf n) cap (lo xs) by rw [lo_eq hx]; exact hs.take (hf n) (by omega))
    have HDH := hide (show Ds w (some ⟨b, o + 32 * hf n, none⟩) (n - hf n) (cap - hf n) (hi xs) by rw [hi_eq hx]; exact hs.drop (hf n) (by omega))
    have LL := hide (root_length HDL.out.hlen HDL.out.hbyte)
    have LH := hide (root_length HDH.out.hlen HDH.out.hbyte)
    have BL := hide (root_isB HDL.out.hlen HDL.out.hbyte)
    have BH := hide (root_isB HDH.out.hlen HDH.out.hbyte)
    have HML := hide (show (u8s (root xs)).length = 32 by rw [u8s_length, root_length hx hs.hbyte])
    obtain ⟨k, HKE⟩ : ∃ k, Hid (hf n = k) := ⟨hf n, hide rfl⟩
    rw [HKE.out] at hbd HDL HDH
    have n0 : ¬ ((n : Int) = 0) := by omega
    have n1 : ¬ ((n : Int) = 1) := by omega
    clear hs hx
    go_enter Tryd.func33, Tryd.ntmps33
    go_wp2_with (refine step_alloc zD rfl ?_)
    intro w1 g1 hg1 hle1 hb1
    have G1 := hide hg1
    have HB1 := hide hb1
    clear hg1 hb1
    go_wp2_with fail
    refine (half_any n _ h2 (by omega)).mono ?_
    rintro e w2 ⟨rfl, rfl⟩
    rw [HKE.out]
    go_wp2_with fail
    refine wp_region_noPanic ?_
    have B0 := hide ((Below.refl w2.heap.size w2).drew)
    refine wp_region_held_drew (S := fun v : World => True) (by kernel_rfl) trivial (fun hHeld => ?_)
    refine takeH 0 17 (.slice (some ⟨b, o, none⟩) n cap) hHeld rfl rfl (by kernel_rfl) (by kernel_rfl) (by kernel_rfl) (fun _ _ _ h => h) (Or.inl ⟨by rfl, fun w _ => by go_simp⟩) ?_
    simp only [Act.put, List.setIfInBounds_toArray, List.set_cons_zero, List.set_cons_succ]
    refine takeH 1 18 (.int .i64 (k : Int)) hHeld rfl rfl (by kernel_rfl) (by kernel_rfl) (by kernel_rfl) (fun _ _ _ h => h) (Or.inl ⟨by rfl, fun w _ => by go_simp⟩) ?_
    simp only [Act.put, List.setIfInBounds_toArray, List.set_cons_zero, List.set_cons_succ]
    refine takeH 2 19 (.slice (some ⟨b, o, none⟩) k cap) hHeld rfl rfl (by kernel_rfl) (by kernel_rfl) (by kernel_rfl) (fun _ _ _ h => h) (Or.inl ⟨by rfl, fun w _ => run_op rfl (d_to b o n cap k (k : Int) rfl (by omega) w)⟩) ?_
    simp only [Act.put, List.setIfInBounds_toArray, List.set_cons_zero, List.set_cons_succ]
    refine takeH 4 21 (.slice (some ⟨b, o, none⟩) n cap) hHeld rfl rfl (by kernel_rfl) (by kernel_rfl) (by kernel_rfl) (fun _ _ _ h => h) (Or.inl ⟨by rfl, fun w _ => by go_simp⟩) ?_
    simp only [Act.put, List.setIfInBounds_toArray, List.set_cons_zero, List.set_cons_succ]
    refine takeH 5 22 (.int .i64 (k : Int)) hHeld rfl rfl (by kernel_rfl) (by kernel_rfl) (by kernel_rfl) (fun _ _ _ h => h) (Or.inl ⟨by rfl, fun w _ => by go_simp⟩) ?_
    simp only [Act.put, List.setIfInBounds_toArray, List.set_cons_zero, List.set_cons_succ]
    refine takeH 6 23 (.slice (some ⟨b, o + 32 * k, none⟩) (n - k) (cap - k)) hHeld rfl rfl (by kernel_rfl) (by kernel_rfl) (by kernel_rfl) (fun _ _ _ h => h) (Or.inl ⟨by rfl, fun w _ => run_op rfl (d_from b o n cap k (k : Int) rfl (by omega) (by omega) w)⟩) ?_
    simp only [Act.put, List.setIfInBounds_toArray, List.set_cons_zero, List.set_cons_succ]
    have B01 := hide (HB1.out.trans (B0.out.mono HB1.out.size))
    refine wpAnyH_ready (rs := [3]) (by kernel_rfl) (by simp) (AllReadyH.cons rfl (fun K hK => ?_) AllReadyH.nil)
    rw [if_pos (by rfl)]
    go_simp
    refine (ih _ _ _ (lo xs) _ (by omega) (HDL.out.below B01.out) ).mono ?_
    rintro e v1 ⟨rfl, hv1⟩
    have B1 := hide (B01.out.trans (hv1.mono B01.out.size))
    refine hK.out _ _ (trivial) (fun hHeld => ?_)
    clear hK K
    refine wpAnyH_ready (rs := [7]) (by kernel_rfl) (by simp) (AllReadyH.cons rfl (fun K hK => ?_) AllReadyH.nil)
    rw [if_pos (by rfl)]
    go_simp
    refine (ih _ _ _ (hi xs) _ (by omega) (HDH.out.below B1.out) ).mono ?_
    rintro e v2 ⟨rfl, hv2⟩
    have B2 := hide (B1.out.trans (hv2.mono B1.out.size))
    refine hK.out _ _ (trivial) (fun hHeld => ?_)
    clear hK K
    refine wpAnyH_ready (rs := [8]) (by kernel_rfl) (by simp) (AllReadyH.cons rfl (fun K hK => ?_) AllReadyH.nil)
    rw [if_pos (by rfl)]
    go_simp
    refine (nodeR_any (root (lo xs)) (root (hi xs)) _ LL.out BL.out LH.out BH.out ).mono ?_
    rintro e v3 ⟨rfl, hv3⟩
    rw [← ER.out]
    have B3 := hide (B2.out.trans (hv3.mono B2.out.size))
    have G3 := hide (((((G1.out.below B0.out G1.out.lt).below hv1 (G1.out.below B0.out G1.out.lt).lt).below hv2 ((G1.out.below B0.out G1.out.lt).below hv1 (G1.out.below B0.out G1.out.lt).lt).lt)).below hv3 (((G1.out.below B0.out G1.out.lt).below hv1 (G1.out.below B0.out G1.out.lt).lt).below hv2 ((G1.out.below B0.out G1.out.lt).below hv1 (G1.out.below B0.out G1.out.lt).lt).lt).lt)
    refine hK.out _ _ (trivial) (fun hHeld => ?_)
    clear hK K
    refine wpAnyH_ready (rs := [9]) (by kernel_rfl) (by simp) (AllReadyH.cons rfl (fun K hK => ?_) AllReadyH.nil)
    rw [if_pos (by rfl)]
    refine wp_storeW wD rfl rfl rfl G3.out HML.out (One.u8 _) (by simp [u8s_length, zer_length]) ?_
    intro v5 hgs hbuts
    refine hK.out _ _ trivial (fun hHeld => ?_)
    clear hK K
    simp only [Act.put]
    refine wpAnyH_done (by kernel_rfl) ?_ _
    refine NoPanic.normal ?_
    clear hHeld
    have EZ : Hid (spl (u8s (zer 32)) (u8s (root xs)) 0 = u8s (root xs)) := hide (by
      unfold spl
      rw [List.drop_of_length_le (by rw [HML.out, u8s_length, zer_length]; omega)]
      simp)
    rw [EZ.out] at hgs
    go_wp2
    refine bodyPost_ret (results_wide rfl wD _ _ rfl hgs HML.out) rfl ⟨rfl, ?_⟩
    exact B3.out.trans (hbuts.below hle1)

end Go.Proofs.YtnlpgkfmjlljdaaDoor
