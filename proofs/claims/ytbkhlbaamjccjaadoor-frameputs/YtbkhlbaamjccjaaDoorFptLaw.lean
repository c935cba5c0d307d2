/-
  The walk of FramePuts.
-/
import Derived.Test.YtbkhlbaamjccjaaDoorFsp
import Derived.Test.YtbkhlbaamjccjaaDoorFpt
namespace Go.Proofs.YtbkhlbaamjccjaaDoor
open Go.RowKit
set_option linter.unusedVariables false
set_option linter.unusedSimpArgs false

/-- What Cost tells, and what the law reckons it to be. -/
def coV (n : Int) : Int := if n < 0 then 0 else if 1048576 < n then 0 else 8 + n
def coE (n : Int) : Int := if n < 0 then 2 else if 1048576 < n then 3 else 0
theorem cost_any (n : Int) (w : World) : Calls Tryd.prog 14 #[.int .i64 n] w fun e w' => e = .returned (.tuple #[.int .i64 (coV n), .int .i64 (coE n)]) ∧ w = w' := by
  unfold coV coE
  by_cases h0 : n < 0
  · rw [if_pos h0, if_pos h0]; exact cost_neg n w h0
  · rw [if_neg h0, if_neg h0]
    by_cases h1 : 1048576 < n
    · rw [if_pos h1, if_pos h1]; exact cost_big n w h1
    · rw [if_neg h1, if_neg h1]; exact cost_ok n w (by omega) (by omega)
set_option maxRecDepth 100000 in
set_option maxHeartbeats 1000000 in
theorem puts_big (a : Option Addr) (len cap : Nat) (xs : List Int) (b : Option Addr) (m c : Nat) (ys : List Int) (n : Int) (w : World) (hs : Sl w a len cap xs) (hl : cap ≤ 140737488351232) (hm : 1048576 < m) :
    Calls Tryd.prog 4 #[.slice a len cap, .slice b m c, .int .i64 n] w fun e w' => e = .returned (.bool true) ∧ Below w.heap.size w w' := by
  have HS := hide hs
  have hcap := hs.hcap
  have HX := hide hs.hlen
  have HXB := hide hs.hbyte
  have hm' : (1048576 : Int) < m := by omega
  clear hs
  go_enter Tryd.func4, Tryd.ntmps4
  have ho0 : Own (w.alloc (.cells #[] 5)) w.heap.size (.slice (some ⟨w.heap.size, 0, none⟩) 0 0) [] := Own.of_blk (xs := []) (Blk.made w 5 []) (Nat.le_refl _) (by simp)
  have hb0 : Below w.heap.size w (w.alloc (.cells #[] 5)) := (Below.refl _ _).alloc (Nat.le_refl _) _
  go_wp2_with (refine step_append rfl rfl rfl ho0 (HS.out.below hb0) (by simp; omega) (by simp) ?_)
  intro v1 w1 ho1 hg1 hn1
  have hb1 : Below w.heap.size w w1 := hb0.trans (Below.of_grown hg1 hb0.size ho0.lt)
  have hv1n : v1 ≠ .slice none 0 0 := fun e => by have e2 := (hn1 e).1; cases e2
  clear hg1 hn1 ho0 hb0
  have HO1 := hide ho1
  clear ho1
  go_wp2_with (refine step_append rfl rfl rfl (HO1.out.alloc _) (one_slW _ 90 (by omega)) (by simp [HX.out]; omega) (by have := hb1.size; simp; omega) ?_)
  intro v2 w2 ho2 hg2 hn2
  have HB2 := hide ((hb1.alloc hb1.size _).trans (Below.of_grown hg2 (by have := hb1.size; simp; omega) HO1.out.lt))
  have hv2n : v2 ≠ .slice none 0 0 := fun e => hv1n (hn2 e).1
  clear hg2 hn2 HO1
  rw [List.nil_append] at ho2
  obtain ⟨gk, ck, rfl, hgk0, hin⟩ := ho2.sl (HXB.out.append (by simp [isB])) (by simp [HX.out]; omega) hv2n
  have hlx : (xs ++ [90]).length = len + 1 := by simp [HX.out]
  rw [hlx] at hin ⊢
  clear hlx
  have hkc := hin.hcap
  have hkm := hin.hmax
  have IK := hide hin
  have hpre := hin.take len (by omega)
  rw [List.take_append_of_le_length (by rw [HX.out]; exact Nat.le_refl _), List.take_of_length_le (by rw [HX.out]; exact Nat.le_refl _)] at hpre
  have PK := hide hpre
  have HW2 := hide HB2.out.size
  clear hin hpre ho2 hv1n hv2n hb1
  have hsl := sl_to gk (len + 1) ck len (len : Int) rfl (by omega)
  have S2 := hide (HS.out.below HB2.out)
  have hst := str_5aW xs
  have hsz : ¬ 9223372036854775807 < (str xs).size + 1 := by rw [str_size, HX.out]; omega
  by_cases h0 : n < 0
  · have HV : Hid (coV n = 0) := hide (by unfold coV; rw [if_pos h0])
    have HE : Hid (coE n = 2) := hide (by unfold coE; rw [if_pos h0])
    have h1 : ¬ 1048576 < n := by omega
    go_wp2_with (first | (refine step_toStr rfl rfl IK.out ?_) | (refine step_toStr rfl rfl S2.out ?_) | (go_at_call 13; refine (put_big _ _ _ _ _ _ _ hm).mono ?_; rintro e w' ⟨rfl, rfl⟩) | (go_at_call 14; refine (cost_any n _).mono ?_; rw [HV.out, HE.out]; rintro e w' ⟨rfl, rfl⟩) | (go_at_call 15; refine (namesL _).mono ?_; rintro _ w' ⟨rfl, rfl⟩))
    go_ret
    exact ⟨rfl, HB2.out⟩
  by_cases h1 : 1048576 < n
  · have HV : Hid (coV n = 0) := hide (by unfold coV; rw [if_neg h0, if_pos h1])
    have HE : Hid (coE n = 3) := hide (by unfold coE; rw [if_neg h0, if_pos h1])
    go_wp2_with (first | (refine step_toStr rfl rfl IK.out ?_) | (refine step_toStr rfl rfl S2.out ?_) | (go_at_call 13; refine (put_big _ _ _ _ _ _ _ hm).mono ?_; rintro e w' ⟨rfl, rfl⟩) | (go_at_call 14; refine (cost_any n _).mono ?_; rw [HV.out, HE.out]; rintro e w' ⟨rfl, rfl⟩) | (go_at_call 15; refine (namesL _).mono ?_; rintro _ w' ⟨rfl, rfl⟩))
    go_ret
    exact ⟨rfl, HB2.out⟩
  · have HV : Hid (coV n = 8 + n) := hide (by unfold coV; rw [if_neg h0, if_neg h1])
    have HE : Hid (coE n = 0) := hide (by unfold coE; rw [if_neg h0, if_neg h1])
    go_wp2_with (first | (refine step_toStr rfl rfl IK.out ?_) | (refine step_toStr rfl rfl S2.out ?_) | (go_at_call 13; refine (put_big _ _ _ _ _ _ _ hm).mono ?_; rintro e w' ⟨rfl, rfl⟩) | (go_at_call 14; refine (cost_any n _).mono ?_; rw [HV.out, HE.out]; rintro e w' ⟨rfl, rfl⟩) | (go_at_call 15; refine (namesL _).mono ?_; rintro _ w' ⟨rfl, rfl⟩))
    go_ret
    exact ⟨rfl, HB2.out⟩

set_option maxRecDepth 100000 in
set_option maxHeartbeats 2000000 in
theorem puts_fit (a : Option Addr) (len cap : Nat) (xs : List Int) (b : Option Addr) (m c : Nat) (ys : List Int) (n : Int) (w : World) (hs : Sl w a len cap xs) (hl : cap ≤ 140737488351232) (hy : Sl w b m c ys) (hk : KT w) (hm : m ≤ 1048576) :
    Calls Tryd.prog 4 #[.slice a len cap, .slice b m c, .int .i64 n] w fun e w' => e = .returned (.bool true) ∧ Below w.heap.size w w' := by
  have HS := hide hs
  have hcap := hs.hcap
  have HX := hide hs.hlen
  have HXB := hide hs.hbyte
  have HY := hide hy
  have HYL := hide hy.hlen
  have HYB := hide hy.hbyte
  have HK := hide hk
  clear hs hy hk
  go_enter Tryd.func4, Tryd.ntmps4
  have ho0 : Own (w.alloc (.cells #[] 5)) w.heap.size (.slice (some ⟨w.heap.size, 0, none⟩) 0 0) [] := Own.of_blk (xs := []) (Blk.made w 5 []) (Nat.le_refl _) (by simp)
  have hb0 : Below w.heap.size w (w.alloc (.cells #[] 5)) := (Below.refl _ _).alloc (Nat.le_refl _) _
  go_wp2_with (refine step_append rfl rfl rfl ho0 (HS.out.below hb0) (by simp; omega) (by simp) ?_)
  intro v1 w1 ho1 hg1 hn1
  have hb1 : Below w.heap.size w w1 := hb0.trans (Below.of_grown hg1 hb0.size ho0.lt)
  have hv1n : v1 ≠ .slice none 0 0 := fun e => by have e2 := (hn1 e).1; cases e2
  clear hg1 hn1 ho0 hb0
  have HO1 := hide ho1
  clear ho1
  go_wp2_with (refine step_append rfl rfl rfl (HO1.out.alloc _) (one_slW _ 90 (by omega)) (by simp [HX.out]; omega) (by have := hb1.size; simp; omega) ?_)
  intro v2 w2 ho2 hg2 hn2
  have HB2 := hide ((hb1.alloc hb1.size _).trans (Below.of_grown hg2 (by have := hb1.size; simp; omega) HO1.out.lt))
  have hv2n : v2 ≠ .slice none 0 0 := fun e => hv1n (hn2 e).1
  clear hg2 hn2 HO1
  rw [List.nil_append] at ho2
  obtain ⟨gk, ck, rfl, hgk0, hin⟩ := ho2.sl (HXB.out.append (by simp [isB])) (by simp [HX.out]; omega) hv2n
  have hlx : (xs ++ [90]).length = len + 1 := by simp [HX.out]
  rw [hlx] at hin ⊢
  clear hlx
  have hkc := hin.hcap
  have hkm := hin.hmax
  have IK := hide hin
  have hpre := hin.take len (by omega)
  rw [List.take_append_of_le_length (by rw [HX.out]; exact Nat.le_refl _), List.take_of_length_le (by rw [HX.out]; exact Nat.le_refl _)] at hpre
  have PK := hide hpre
  have HW2 := hide HB2.out.size
  clear hin hpre ho2 hv1n hv2n hb1
  have hsl := sl_to gk (len + 1) ck len (len : Int) rfl (by omega)
  have K2 := hide (HK.out.on HB2.out)
  have Y2 := hide (HY.out.below HB2.out)
  have P3 := hide (put_ok _ _ _ _ _ _ xs ys w2 PK.out Y2.out hm K2.out)
  have hm' : (m : Int) ≤ 1048576 := by omega
  have hst := str_5aW xs
  have hsz : ¬ 9223372036854775807 < (str xs).size + 1 := by rw [str_size, HX.out]; omega
  by_cases h0 : n < 0
  · have HV : Hid (coV n = 0) := hide (by unfold coV; rw [if_pos h0])
    have HE : Hid (coE n = 2) := hide (by unfold coE; rw [if_pos h0])
    have h1 : ¬ 1048576 < n := by omega
    go_wp2_with fail
    refine P3.out.mono ?_
    rintro _ w3 ⟨g3, rfl, hg3, ho3, hb3⟩
    have P4 := hide (put_ok _ _ _ _ _ _ xs ys w3 (PK.out.below hb3) (Y2.out.below hb3) hm (K2.out.on hb3))
    have O3 := hide ho3
    have lt3 := ho3.lt2 g3 rfl
    have B3 := hide (on_below HB2.out hb3)
    have IK3 := hide (IK.out.below hb3)
    have l3 := hb3.size
    clear ho3 hb3 P3 PK IK K2 Y2
    go_wp2_with fail
    refine P4.out.mono ?_
    rintro _ w4 ⟨g4, rfl, hg4, ho4, hb4⟩
    have O34 := hide (O3.out.below hb4)
    have O4 := hide ho4
    have lt4 := ho4.lt2 g4 rfl
    have B4 := hide (on_below B3.out hb4)
    have IK4 := hide (IK3.out.below hb4)
    have S4 := hide (HS.out.below B4.out)
    have Y4 := hide (HY.out.below B4.out)
    have l4 := hb4.size
    have F5 := hide (fun v (hv : Below w4.heap.size w4 v) => frameR_any _ _ _ ys v (Y4.out.below hv) hm)
    clear ho4 hb4 P4 IK3 B3 O3
    go_wp2_with (first | (refine step_toStr rfl rfl IK4.out ?_) | (refine step_toStr rfl rfl S4.out ?_) | (go_at_call 14; refine (cost_any n _).mono ?_; rw [HV.out, HE.out]; rintro e w4 ⟨rfl, rfl⟩) | (go_at_call 15; refine (namesL _).mono ?_; rintro _ w4 ⟨rfl, rfl⟩))
    refine wp_region_noPanic ?_
    have Y0 := hide ((Below.refl w4.heap.size w4).drew)
    refine wp_region_held_drew (S := fun v : World => Below w4.heap.size w4 v) (by kernel_rfl) Y0.out (fun hHeld => ?_)
    refine takeH 0 81 (.slice a len cap) hHeld rfl rfl (by kernel_rfl) (by kernel_rfl) (by kernel_rfl) (fun _ _ _ h => h) (Or.inl ⟨by rfl, fun w _ => by go_simp⟩) ?_
    simp only [Act.put, List.setIfInBounds_toArray, List.set_cons_zero, List.set_cons_succ]
    refine takeH 1 82 (.string (str xs)) hHeld rfl rfl (by kernel_rfl) (by kernel_rfl) (by kernel_rfl) (fun _ _ _ h => h) (Or.inl ⟨by rfl, fun v hv => run_op rfl (toStr (S4.out.below hv))⟩) ?_
    simp only [Act.put, List.setIfInBounds_toArray, List.set_cons_zero, List.set_cons_succ]
    refine takeH 2 83 (.slice b m c) hHeld rfl rfl (by kernel_rfl) (by kernel_rfl) (by kernel_rfl) (fun _ _ _ h => h) (Or.inl ⟨by rfl, fun w _ => by go_simp⟩) ?_
    simp only [Act.put, List.setIfInBounds_toArray, List.set_cons_zero, List.set_cons_succ]
    refine wpAnyH_ready (rs := [3]) (by kernel_rfl) (by simp) (AllReadyH.cons rfl (fun K hK => ?_) AllReadyH.nil)
    rw [if_pos (by rfl)]
    go_simp
    refine (F5.out _ Y0.out).mono ?_
    rintro e y1 ⟨vp, rfl, ho5, hb5⟩
    have Y1 := hide (Y0.out.trans (hb5.mono Y0.out.size))
    obtain ⟨ap, cp, rfl, hsp⟩ := ho5.sl' (fmB_isB ys HYB.out) (by rw [fmB_length, HYL.out]; omega)
    have SP := hide ho5
    clear hsp ho5 hb5
    refine hK.out _ _ (Y1.out) (fun hHeld => ?_)
    clear hK K
    refine wpAnyH_ready (rs := [4]) (by kernel_rfl) (by simp) (AllReadyH.cons rfl (fun K hK => ?_) AllReadyH.nil)
    rw [if_pos (by rfl)]
    refine wp_toStrO rfl SP.out ?_
    refine hK.out _ _ (Y1.out) (fun hHeld => ?_)
    clear hK K
    simp only [Act.put]
    refine takeH 5 86 (.string (str (xs ++ fmB ys))) hHeld rfl rfl (by kernel_rfl) (by kernel_rfl) (by kernel_rfl) (fun _ _ _ h => h) (Or.inl ⟨by rfl, fun v _ => run_addS rfl rfl rfl rfl (by rw [HX.out, fmB_length, HYL.out]; omega)⟩) ?_
    simp only [Act.put, List.setIfInBounds_toArray, List.set_cons_zero, List.set_cons_succ]
    refine takeH 6 16 (.string (str (xs ++ fmB ys))) hHeld rfl rfl (by kernel_rfl) (by kernel_rfl) (by kernel_rfl) (fun _ _ _ h => h) (Or.inl ⟨by rfl, fun w _ => by go_simp⟩) ?_
    simp only [Act.put, List.setIfInBounds_toArray, List.set_cons_zero, List.set_cons_succ]
    refine wpAnyH_done (by kernel_rfl) ?_ _
    refine NoPanic.normal ?_
    clear hHeld
    have O35 := hide (O34.out.below Y1.out)
    have O45 := hide (O4.out.below Y1.out)
    have B5 := hide (on_below B4.out Y1.out)
    have l5 := Y1.out.size
    clear Y0 Y1 SP F5 IK4 S4 Y4 B4 O34 O4
    go_wp2_with (first | (refine step_toStrO rfl rfl O35.out ?_) | fail)
    refine (spoil_any _ _ _ _ O35.out (by rw [List.length_append, HX.out, fmB_length, HYL.out]; omega)).mono ?_
    rintro _ w6 ⟨rfl, hsp⟩
    have O46 := hide (hsp.own (B := w2.heap.size) (xs := xs) (fun k hk => by cases hk; exact lt3) O45.out)
    have B6 := hide (hsp.below (w0 := w) (fun k hk => by cases hk; exact Nat.le_trans HW2.out hg3) B5.out)
    clear hsp O35 O45 B5
    go_wp2_with (first | (refine step_toStrO rfl rfl O46.out ?_) | fail)
    go_ret
    exact ⟨rfl, B6.out⟩
  by_cases h1 : 1048576 < n
  · have HV : Hid (coV n = 0) := hide (by unfold coV; rw [if_neg h0, if_pos h1])
    have HE : Hid (coE n = 3) := hide (by unfold coE; rw [if_neg h0, if_pos h1])
    go_wp2_with fail
    refine P3.out.mono ?_
    rintro _ w3 ⟨g3, rfl, hg3, ho3, hb3⟩
    have P4 := hide (put_ok _ _ _ _ _ _ xs ys w3 (PK.out.below hb3) (Y2.out.below hb3) hm (K2.out.on hb3))
    have O3 := hide ho3
    have lt3 := ho3.lt2 g3 rfl
    have B3 := hide (on_below HB2.out hb3)
    have IK3 := hide (IK.out.below hb3)
    have l3 := hb3.size
    clear ho3 hb3 P3 PK IK K2 Y2
    go_wp2_with fail
    refine P4.out.mono ?_
    rintro _ w4 ⟨g4, rfl, hg4, ho4, hb4⟩
    have O34 := hide (O3.out.below hb4)
    have O4 := hide ho4
    have lt4 := ho4.lt2 g4 rfl
    have B4 := hide (on_below B3.out hb4)
    have IK4 := hide (IK3.out.below hb4)
    have S4 := hide (HS.out.below B4.out)
    have Y4 := hide (HY.out.below B4.out)
    have l4 := hb4.size
    have F5 := hide (fun v (hv : Below w4.heap.size w4 v) => frameR_any _ _ _ ys v (Y4.out.below hv) hm)
    clear ho4 hb4 P4 IK3 B3 O3
    go_wp2_with (first | (refine step_toStr rfl rfl IK4.out ?_) | (refine step_toStr rfl rfl S4.out ?_) | (go_at_call 14; refine (cost_any n _).mono ?_; rw [HV.out, HE.out]; rintro e w4 ⟨rfl, rfl⟩) | (go_at_call 15; refine (namesL _).mono ?_; rintro _ w4 ⟨rfl, rfl⟩))
    refine wp_region_noPanic ?_
    have Y0 := hide ((Below.refl w4.heap.size w4).drew)
    refine wp_region_held_drew (S := fun v : World => Below w4.heap.size w4 v) (by kernel_rfl) Y0.out (fun hHeld => ?_)
    refine takeH 0 81 (.slice a len cap) hHeld rfl rfl (by kernel_rfl) (by kernel_rfl) (by kernel_rfl) (fun _ _ _ h => h) (Or.inl ⟨by rfl, fun w _ => by go_simp⟩) ?_
    simp only [Act.put, List.setIfInBounds_toArray, List.set_cons_zero, List.set_cons_succ]
    refine takeH 1 82 (.string (str xs)) hHeld rfl rfl (by kernel_rfl) (by kernel_rfl) (by kernel_rfl) (fun _ _ _ h => h) (Or.inl ⟨by rfl, fun v hv => run_op rfl (toStr (S4.out.below hv))⟩) ?_
    simp only [Act.put, List.setIfInBounds_toArray, List.set_cons_zero, List.set_cons_succ]
    refine takeH 2 83 (.slice b m c) hHeld rfl rfl (by kernel_rfl) (by kernel_rfl) (by kernel_rfl) (fun _ _ _ h => h) (Or.inl ⟨by rfl, fun w _ => by go_simp⟩) ?_
    simp only [Act.put, List.setIfInBounds_toArray, List.set_cons_zero, List.set_cons_succ]
    refine wpAnyH_ready (rs := [3]) (by kernel_rfl) (by simp) (AllReadyH.cons rfl (fun K hK => ?_) AllReadyH.nil)
    rw [if_pos (by rfl)]
    go_simp
    refine (F5.out _ Y0.out).mono ?_
    rintro e y1 ⟨vp, rfl, ho5, hb5⟩
    have Y1 := hide (Y0.out.trans (hb5.mono Y0.out.size))
    obtain ⟨ap, cp, rfl, hsp⟩ := ho5.sl' (fmB_isB ys HYB.out) (by rw [fmB_length, HYL.out]; omega)
    have SP := hide ho5
    clear hsp ho5 hb5
    refine hK.out _ _ (Y1.out) (fun hHeld => ?_)
    clear hK K
    refine wpAnyH_ready (rs := [4]) (by kernel_rfl) (by simp) (AllReadyH.cons rfl (fun K hK => ?_) AllReadyH.nil)
    rw [if_pos (by rfl)]
    refine wp_toStrO rfl SP.out ?_
    refine hK.out _ _ (Y1.out) (fun hHeld => ?_)
    clear hK K
    simp only [Act.put]
    refine takeH 5 86 (.string (str (xs ++ fmB ys))) hHeld rfl rfl (by kernel_rfl) (by kernel_rfl) (by kernel_rfl) (fun _ _ _ h => h) (Or.inl ⟨by rfl, fun v _ => run_addS rfl rfl rfl rfl (by rw [HX.out, fmB_length, HYL.out]; omega)⟩) ?_
    simp only [Act.put, List.setIfInBounds_toArray, List.set_cons_zero, List.set_cons_succ]
    refine takeH 6 16 (.string (str (xs ++ fmB ys))) hHeld rfl rfl (by kernel_rfl) (by kernel_rfl) (by kernel_rfl) (fun _ _ _ h => h) (Or.inl ⟨by rfl, fun w _ => by go_simp⟩) ?_
    simp only [Act.put, List.setIfInBounds_toArray, List.set_cons_zero, List.set_cons_succ]
    refine wpAnyH_done (by kernel_rfl) ?_ _
    refine NoPanic.normal ?_
    clear hHeld
    have O35 := hide (O34.out.below Y1.out)
    have O45 := hide (O4.out.below Y1.out)
    have B5 := hide (on_below B4.out Y1.out)
    have l5 := Y1.out.size
    clear Y0 Y1 SP F5 IK4 S4 Y4 B4 O34 O4
    go_wp2_with (first | (refine step_toStrO rfl rfl O35.out ?_) | fail)
    refine (spoil_any _ _ _ _ O35.out (by rw [List.length_append, HX.out, fmB_length, HYL.out]; omega)).mono ?_
    rintro _ w6 ⟨rfl, hsp⟩
    have O46 := hide (hsp.own (B := w2.heap.size) (xs := xs) (fun k hk => by cases hk; exact lt3) O45.out)
    have B6 := hide (hsp.below (w0 := w) (fun k hk => by cases hk; exact Nat.le_trans HW2.out hg3) B5.out)
    clear hsp O35 O45 B5
    go_wp2_with (first | (refine step_toStrO rfl rfl O46.out ?_) | fail)
    go_ret
    exact ⟨rfl, B6.out⟩
  · have HV : Hid (coV n = 8 + n) := hide (by unfold coV; rw [if_neg h0, if_neg h1])
    have HE : Hid (coE n = 0) := hide (by unfold coE; rw [if_neg h0, if_neg h1])
    go_wp2_with fail
    refine P3.out.mono ?_
    rintro _ w3 ⟨g3, rfl, hg3, ho3, hb3⟩
    have P4 := hide (put_ok _ _ _ _ _ _ xs ys w3 (PK.out.below hb3) (Y2.out.below hb3) hm (K2.out.on hb3))
    have O3 := hide ho3
    have lt3 := ho3.lt2 g3 rfl
    have B3 := hide (on_below HB2.out hb3)
    have IK3 := hide (IK.out.below hb3)
    have l3 := hb3.size
    clear ho3 hb3 P3 PK IK K2 Y2
    go_wp2_with fail
    refine P4.out.mono ?_
    rintro _ w4 ⟨g4, rfl, hg4, ho4, hb4⟩
    have O34 := hide (O3.out.below hb4)
    have O4 := hide ho4
    have lt4 := ho4.lt2 g4 rfl
    have B4 := hide (on_below B3.out hb4)
    have IK4 := hide (IK3.out.below hb4)
    have S4 := hide (HS.out.below B4.out)
    have Y4 := hide (HY.out.below B4.out)
    have l4 := hb4.size
    have F5 := hide (fun v (hv : Below w4.heap.size w4 v) => frameR_any _ _ _ ys v (Y4.out.below hv) hm)
    clear ho4 hb4 P4 IK3 B3 O3
    go_wp2_with (first | (refine step_toStr rfl rfl IK4.out ?_) | (refine step_toStr rfl rfl S4.out ?_) | (go_at_call 14; refine (cost_any n _).mono ?_; rw [HV.out, HE.out]; rintro e w4 ⟨rfl, rfl⟩) | (go_at_call 15; refine (namesL _).mono ?_; rintro _ w4 ⟨rfl, rfl⟩))
    refine wp_region_noPanic ?_
    have Y0 := hide ((Below.refl w4.heap.size w4).drew)
    refine wp_region_held_drew (S := fun v : World => Below w4.heap.size w4 v) (by kernel_rfl) Y0.out (fun hHeld => ?_)
    refine takeH 0 81 (.slice a len cap) hHeld rfl rfl (by kernel_rfl) (by kernel_rfl) (by kernel_rfl) (fun _ _ _ h => h) (Or.inl ⟨by rfl, fun w _ => by go_simp⟩) ?_
    simp only [Act.put, List.setIfInBounds_toArray, List.set_cons_zero, List.set_cons_succ]
    refine takeH 1 82 (.string (str xs)) hHeld rfl rfl (by kernel_rfl) (by kernel_rfl) (by kernel_rfl) (fun _ _ _ h => h) (Or.inl ⟨by rfl, fun v hv => run_op rfl (toStr (S4.out.below hv))⟩) ?_
    simp only [Act.put, List.setIfInBounds_toArray, List.set_cons_zero, List.set_cons_succ]
    refine takeH 2 83 (.slice b m c) hHeld rfl rfl (by kernel_rfl) (by kernel_rfl) (by kernel_rfl) (fun _ _ _ h => h) (Or.inl ⟨by rfl, fun w _ => by go_simp⟩) ?_
    simp only [Act.put, List.setIfInBounds_toArray, List.set_cons_zero, List.set_cons_succ]
    refine wpAnyH_ready (rs := [3]) (by kernel_rfl) (by simp) (AllReadyH.cons rfl (fun K hK => ?_) AllReadyH.nil)
    rw [if_pos (by rfl)]
    go_simp
    refine (F5.out _ Y0.out).mono ?_
    rintro e y1 ⟨vp, rfl, ho5, hb5⟩
    have Y1 := hide (Y0.out.trans (hb5.mono Y0.out.size))
    obtain ⟨ap, cp, rfl, hsp⟩ := ho5.sl' (fmB_isB ys HYB.out) (by rw [fmB_length, HYL.out]; omega)
    have SP := hide ho5
    clear hsp ho5 hb5
    refine hK.out _ _ (Y1.out) (fun hHeld => ?_)
    clear hK K
    refine wpAnyH_ready (rs := [4]) (by kernel_rfl) (by simp) (AllReadyH.cons rfl (fun K hK => ?_) AllReadyH.nil)
    rw [if_pos (by rfl)]
    refine wp_toStrO rfl SP.out ?_
    refine hK.out _ _ (Y1.out) (fun hHeld => ?_)
    clear hK K
    simp only [Act.put]
    refine takeH 5 86 (.string (str (xs ++ fmB ys))) hHeld rfl rfl (by kernel_rfl) (by kernel_rfl) (by kernel_rfl) (fun _ _ _ h => h) (Or.inl ⟨by rfl, fun v _ => run_addS rfl rfl rfl rfl (by rw [HX.out, fmB_length, HYL.out]; omega)⟩) ?_
    simp only [Act.put, List.setIfInBounds_toArray, List.set_cons_zero, List.set_cons_succ]
    refine takeH 6 16 (.string (str (xs ++ fmB ys))) hHeld rfl rfl (by kernel_rfl) (by kernel_rfl) (by kernel_rfl) (fun _ _ _ h => h) (Or.inl ⟨by rfl, fun w _ => by go_simp⟩) ?_
    simp only [Act.put, List.setIfInBounds_toArray, List.set_cons_zero, List.set_cons_succ]
    refine wpAnyH_done (by kernel_rfl) ?_ _
    refine NoPanic.normal ?_
    clear hHeld
    have O35 := hide (O34.out.below Y1.out)
    have O45 := hide (O4.out.below Y1.out)
    have B5 := hide (on_below B4.out Y1.out)
    have l5 := Y1.out.size
    clear Y0 Y1 SP F5 IK4 S4 Y4 B4 O34 O4
    go_wp2_with (first | (refine step_toStrO rfl rfl O35.out ?_) | fail)
    refine (spoil_any _ _ _ _ O35.out (by rw [List.length_append, HX.out, fmB_length, HYL.out]; omega)).mono ?_
    rintro _ w6 ⟨rfl, hsp⟩
    have O46 := hide (hsp.own (B := w2.heap.size) (xs := xs) (fun k hk => by cases hk; exact lt3) O45.out)
    have B6 := hide (hsp.below (w0 := w) (fun k hk => by cases hk; exact Nat.le_trans HW2.out hg3) B5.out)
    clear hsp O35 O45 B5
    go_wp2_with (first | (refine step_toStrO rfl rfl O46.out ?_) | fail)
    go_ret
    exact ⟨rfl, B6.out⟩
theorem puts_law (a : Option Addr) (len cap : Nat) (xs : List Int) (b : Option Addr) (m c : Nat) (ys : List Int) (n : Int) (w : World) (hs : Sl w a len cap xs) (hl : cap ≤ 140737488351232) (hy : Sl w b m c ys) (hc : c ≤ 140737488351232) (hn : (Lit.int .i64 n).wf = true) (hk : KT w) :
    Calls Tryd.prog 4 #[.slice a len cap, .slice b m c, .int .i64 n] w fun e w' => e = .returned (.bool true) ∧ Below w.heap.size w w' := by
  by_cases hm : m ≤ 1048576
  · exact puts_fit a len cap xs b m c ys n w hs hl hy hk hm
  · exact puts_big a len cap xs b m c ys n w hs hl (by omega)

end Go.Proofs.YtbkhlbaamjccjaaDoor
