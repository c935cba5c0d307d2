/-
  Which tiles may be: the document's.
-/
import Derived.Test.YtlgcjdgcgnlcaaaDoorTe0
namespace Go.Proofs.YtlgcjdgcgnlcaaaDoor
open Go.RowKit
set_option linter.unusedVariables false

theorem below_of_eq {v v' : World} (h : v' = v) : Below v.heap.size v v' := by rw [h]; exact Below.refl _ _
theorem tOK_iff {H L I N P : Nat} (hH : isH H) (hP : 2 ^ H = P) (hN : 1 ≤ N) (hNP : N ≤ P) : tOK (H : Int) (L : Int) (I : Int) (N : Int) ↔ I * P + N ≤ 281474976710656 / 2 ^ (H * L) := by
  constructor
  · rintro ⟨H', L', I', N', e1, e2, e3, e4, _, h1, h2⟩
    obtain rfl : H = H' := by omega
    obtain rfl : L = L' := by omega
    obtain rfl : I = I' := by omega
    obtain rfl : N = N' := by omega
    unfold tW tOv at h2
    rw [hP] at h2
    generalize I * P = X at *
    generalize 281474976710656 / 2 ^ (H * L) = D at *
    omega
  · intro h
    refine ⟨H, L, I, N, rfl, rfl, rfl, rfl, hH, hN, ?_⟩
    unfold tW tOv
    rw [hP]
    generalize I * P = X at *
    generalize 281474976710656 / 2 ^ (H * L) = D at *
    omega
set_option maxRecDepth 100000 in
set_option maxHeartbeats 2000000 in
theorem validTR_any (h l i n : Int) : ∃ q : Bool, (q = true ↔ tOK h l i n) ∧ ∀ w : World,
    Calls Tryd.prog 39 #[.agg (c4 h l i n).toArray] w fun r w' => r = .returned (.bool q) ∧ Below w.heap.size w w' := by
  by_cases hh : h < 1 ∨ 8 < h
  · refine ⟨false, ⟨(fun e => by cases e), fun ⟨H, L, I, N, e1, e2, e3, e4, hH, _⟩ => by have := hH.1; have := hH.2; omega⟩, fun w => ?_⟩
    have HHC : Hid (∀ v : World, Calls Tryd.prog 19 #[.int .i64 h] v fun r w' => r = .returned (.bool false) ∧ Below v.heap.size v w') := hide (fun v => (heightR_no h v hh).mono (fun r v' hv => ⟨hv.1, below_of_eq hv.2⟩))
    clear hh
    go_enter Tryd.func39, Tryd.ntmps39
    go_wp2_with (first | (refine step_box (cs := c4 h l i n) rfl rfl ?_; intro w1 g1 hg1 hle1 hb1; have HG1 := hide hg1; clear hg1))
    have t0 := Sub.cell HG1.out.four.1
    have t1 := Sub.cell HG1.out.four.2.1
    have t2 := Sub.cell HG1.out.four.2.2.1
    have t3 := Sub.cell HG1.out.four.2.2.2
    have hne := Sub.one w1
    refine wp_region_sub (by kernel_rfl) (by kernel_rfl) ?_
    repeat (go_big_quiet_step (fail))
    go_big_quiet_step ((go_at_call 19; exact sub_call (HHC.out _)))
    repeat (go_big_quiet_step (fail))
    refine wpQuiet_nil ?_
    rintro _ ⟨⟨w2, hb2⟩, rfl⟩
    have q2 := on_below hb1 hb2
    have G2 := hide (HG1.out.on hb2)
    clear hb1 hb2 HG1 t0 t1 t2 t3 hne
    go_wp2
    go_ret
    exact ⟨rfl, q2⟩
  obtain ⟨H, hHe⟩ : ∃ H : Nat, h = (H : Int) := ⟨h.toNat, by omega⟩
  have hH : isH H := ⟨by omega, by omega⟩
  obtain ⟨P, hP⟩ : ∃ P, 2 ^ H = P := ⟨_, rfl⟩
  have hp := hH.pow
  rw [hP] at hp
  have HHC : Hid (∀ v : World, Calls Tryd.prog 19 #[.int .i64 h] v fun r w' => r = .returned (.bool true) ∧ Below v.heap.size v w') := hide (fun v => by
    rw [hHe]
    exact (heightR_yes H v hH).mono (fun r v' hv => ⟨hv.1, below_of_eq hv.2⟩))
  have HFC : Hid (∀ v : World, Calls Tryd.prog 21 #[.int .i64 h] v fun r w' => r = .returned (.int .i64 (P : Int)) ∧ Below v.heap.size v w') := hide (fun v => by
    rw [hHe]
    exact (full_any H P v hH hP).mono (fun r v' hv => ⟨hv.1, below_of_eq hv.2⟩))
  have hP2 : (P : Int) ≤ 256 := by omega
  have HHE := hide hHe
  have h1 : 1 ≤ h := by omega
  have h8 : h ≤ 8 := by omega
  clear hh hHe
  by_cases hl : l < 0
  · refine ⟨false, ⟨(fun e => by cases e), fun ⟨H, L, I, N, e1, e2, e3, e4, hH, _⟩ => by omega⟩, fun w => ?_⟩
    clear hp
    have da0 : decide (l < 0) = true := by simp; omega
    go_enter Tryd.func39, Tryd.ntmps39
    go_wp2_with (first | (refine step_box (cs := c4 h l i n) rfl rfl ?_; intro w1 g1 hg1 hle1 hb1; have HG1 := hide hg1; clear hg1))
    have t0 := Sub.cell HG1.out.four.1
    have t1 := Sub.cell HG1.out.four.2.1
    have t2 := Sub.cell HG1.out.four.2.2.1
    have t3 := Sub.cell HG1.out.four.2.2.2
    have hne := Sub.one w1
    refine wp_region_sub (by kernel_rfl) (by kernel_rfl) ?_
    repeat (go_big_quiet_step (fail))
    go_big_quiet_step ((go_at_call 19; exact sub_call (HHC.out _)))
    repeat (go_big_quiet_step (fail))
    refine wpQuiet_nil ?_
    rintro _ ⟨⟨w2, hb2⟩, rfl⟩
    have q2 := on_below hb1 hb2
    have G2 := hide (HG1.out.on hb2)
    clear hb1 hb2 HG1 t0 t1 t2 t3 hne
    go_wp2
    go_ret
    exact ⟨rfl, q2⟩
  have da0 : decide (l < 0) = false := by simp; omega
  by_cases hl2 : l > 48
  · refine ⟨false, ⟨(fun e => by cases e), fun ⟨H, L, I, N, e1, e2, e3, e4, hH, k1, k2⟩ => by have := (tW_bd hH (Nat.le_refl _) (Nat.lt_of_lt_of_le k1 k2)).2.2; omega⟩, fun w => ?_⟩
    clear hp
    have db0 : decide (l > 48) = true := by simp; omega
    have db1 : decide (48 < l) = true := by simp; omega
    go_enter Tryd.func39, Tryd.ntmps39
    go_wp2_with (first | (refine step_box (cs := c4 h l i n) rfl rfl ?_; intro w1 g1 hg1 hle1 hb1; have HG1 := hide hg1; clear hg1))
    have t0 := Sub.cell HG1.out.four.1
    have t1 := Sub.cell HG1.out.four.2.1
    have t2 := Sub.cell HG1.out.four.2.2.1
    have t3 := Sub.cell HG1.out.four.2.2.2
    have hne := Sub.one w1
    refine wp_region_sub (by kernel_rfl) (by kernel_rfl) ?_
    repeat (go_big_quiet_step (fail))
    go_big_quiet_step ((go_at_call 19; exact sub_call (HHC.out _)))
    repeat (go_big_quiet_step (fail))
    refine wpQuiet_nil ?_
    rintro _ ⟨⟨w2, hb2⟩, rfl⟩
    have q2 := on_below hb1 hb2
    have G2 := hide (HG1.out.on hb2)
    clear hb1 hb2 HG1 t0 t1 t2 t3 hne
    go_wp2
    go_ret
    exact ⟨rfl, q2⟩
  have db0 : decide (l > 48) = false := by simp; omega
  have db1 : decide (48 < l) = false := by simp; omega
  by_cases hi : i < 0
  · refine ⟨false, ⟨(fun e => by cases e), fun ⟨H, L, I, N, e1, e2, e3, e4, hH, _⟩ => by omega⟩, fun w => ?_⟩
    clear hp
    have dc0 : decide (i < 0) = true := by simp; omega
    go_enter Tryd.func39, Tryd.ntmps39
    go_wp2_with (first | (refine step_box (cs := c4 h l i n) rfl rfl ?_; intro w1 g1 hg1 hle1 hb1; have HG1 := hide hg1; clear hg1))
    have t0 := Sub.cell HG1.out.four.1
    have t1 := Sub.cell HG1.out.four.2.1
    have t2 := Sub.cell HG1.out.four.2.2.1
    have t3 := Sub.cell HG1.out.four.2.2.2
    have hne := Sub.one w1
    refine wp_region_sub (by kernel_rfl) (by kernel_rfl) ?_
    repeat (go_big_quiet_step (fail))
    go_big_quiet_step ((go_at_call 19; exact sub_call (HHC.out _)))
    repeat (go_big_quiet_step (fail))
    refine wpQuiet_nil ?_
    rintro _ ⟨⟨w2, hb2⟩, rfl⟩
    have q2 := on_below hb1 hb2
    have G2 := hide (HG1.out.on hb2)
    clear hb1 hb2 HG1 t0 t1 t2 t3 hne
    go_wp2
    go_ret
    exact ⟨rfl, q2⟩
  have dc0 : decide (i < 0) = false := by simp; omega
  by_cases hn : n < 1
  · refine ⟨false, ⟨(fun e => by cases e), fun ⟨H, L, I, N, e1, e2, e3, e4, hH, _⟩ => by omega⟩, fun w => ?_⟩
    clear hp
    have dd0 : decide (n < 1) = true := by simp; omega
    go_enter Tryd.func39, Tryd.ntmps39
    go_wp2_with (first | (refine step_box (cs := c4 h l i n) rfl rfl ?_; intro w1 g1 hg1 hle1 hb1; have HG1 := hide hg1; clear hg1))
    have t0 := Sub.cell HG1.out.four.1
    have t1 := Sub.cell HG1.out.four.2.1
    have t2 := Sub.cell HG1.out.four.2.2.1
    have t3 := Sub.cell HG1.out.four.2.2.2
    have hne := Sub.one w1
    refine wp_region_sub (by kernel_rfl) (by kernel_rfl) ?_
    repeat (go_big_quiet_step (fail))
    go_big_quiet_step ((go_at_call 19; exact sub_call (HHC.out _)))
    repeat (go_big_quiet_step (fail))
    refine wpQuiet_nil ?_
    rintro _ ⟨⟨w2, hb2⟩, rfl⟩
    have q2 := on_below hb1 hb2
    have G2 := hide (HG1.out.on hb2)
    clear hb1 hb2 HG1 t0 t1 t2 t3 hne
    go_wp2
    go_ret
    exact ⟨rfl, q2⟩
  have dd0 : decide (n < 1) = false := by simp; omega
  by_cases hn2 : n > (P : Int)
  · refine ⟨false, ⟨(fun e => by cases e), fun ⟨H', L, I, N, e1, e2, e3, e4, hH, k1, k2⟩ => by
      have h3 := tW_le H' L I 281474976710656
      have h4 : H' = H := by have := HHE.out; omega
      rw [h4] at k2 h3
      rw [hP] at h3
      omega⟩, fun w => ?_⟩
    clear hp
    have de0 : decide (n > (P : Int)) = true := by simp; omega
    have de1 : decide ((P : Int) < n) = true := by simp; omega
    go_enter Tryd.func39, Tryd.ntmps39
    go_wp2_with (first | (refine step_box (cs := c4 h l i n) rfl rfl ?_; intro w1 g1 hg1 hle1 hb1; have HG1 := hide hg1; clear hg1))
    have t0 := Sub.cell HG1.out.four.1
    have t1 := Sub.cell HG1.out.four.2.1
    have t2 := Sub.cell HG1.out.four.2.2.1
    have t3 := Sub.cell HG1.out.four.2.2.2
    have hne := Sub.one w1
    refine wp_region_sub (by kernel_rfl) (by kernel_rfl) ?_
    repeat (go_big_quiet_step (fail))
    go_big_quiet_step ((go_at_call 19; exact sub_call (HHC.out _)))
    repeat (go_big_quiet_step (fail))
    go_big_quiet_step ((go_at_call 21; exact sub_call (HFC.out _)))
    repeat (go_big_quiet_step (fail))
    refine wpQuiet_nil ?_
    rintro _ ⟨⟨w2, hb2⟩, rfl⟩
    have q2 := on_below hb1 hb2
    have G2 := hide (HG1.out.on hb2)
    clear hb1 hb2 HG1 t0 t1 t2 t3 hne
    obtain ⟨c0, c1, c2, c3⟩ := G2.out.four
    go_wp2
    go_ret
    exact ⟨rfl, q2⟩
  have de0 : decide (n > (P : Int)) = false := by simp; omega
  have de1 : decide ((P : Int) < n) = false := by simp; omega
  obtain ⟨L, hLe⟩ : ∃ H : Nat, l = (H : Int) := ⟨l.toNat, by omega⟩
  obtain ⟨I, hIe⟩ : ∃ H : Nat, i = (H : Int) := ⟨i.toNat, by omega⟩
  obtain ⟨N, hNe⟩ : ∃ H : Nat, n = (H : Int) := ⟨n.toNat, by omega⟩
  have hiff : tOK h l i n ↔ I * P + N ≤ 281474976710656 / 2 ^ (H * L) := by rw [HHE.out, hLe, hIe, hNe]; exact tOK_iff hH hP (by omega) (by omega)
  have HIF := hide hiff
  have hM : l * h = ((H * L : Nat) : Int) := by rw [HHE.out, hLe, Int.natCast_mul, Int.mul_comm]
  have hMb : H * L ≤ 384 := by
    have := Nat.mul_le_mul hH.2 (show L ≤ 48 by omega)
    omega
  obtain ⟨M, HM⟩ : ∃ M, Hid (H * L = M) := ⟨_, hide rfl⟩
  rw [HM.out] at hM hMb HIF
  clear hiff hp
  have HIE := hide hIe
  have HNE := hide hNe
  have HPP := hide hP
  have hN1 : 1 ≤ N := by omega
  have hNP : N ≤ P := by omega
  have hP0 : 0 < P := by have := hH.pow.1; rw [hP] at this; omega
  clear hLe hIe hNe hP
  by_cases hM2 : (M : Int) > 48
  · refine ⟨false, ⟨(fun e => by cases e), fun e => by
      have h3 := HIF.out.1 e
      have h4 := tOv_high (h := H) (l := L) (n := 281474976710656) (Nat.le_refl _) (by rw [HM.out]; omega)
      unfold tOv at h4
      rw [HM.out] at h4
      rw [h4] at h3
      omega⟩, fun w => ?_⟩
    go_enter Tryd.func39, Tryd.ntmps39
    go_wp2_with (first | (refine step_box (cs := c4 h l i n) rfl rfl ?_; intro w1 g1 hg1 hle1 hb1; have HG1 := hide hg1; clear hg1))
    have t0 := Sub.cell HG1.out.four.1
    have t1 := Sub.cell HG1.out.four.2.1
    have t2 := Sub.cell HG1.out.four.2.2.1
    have t3 := Sub.cell HG1.out.four.2.2.2
    have hne := Sub.one w1
    refine wp_region_sub (by kernel_rfl) (by kernel_rfl) ?_
    repeat (go_big_quiet_step (fail))
    go_big_quiet_step ((go_at_call 19; exact sub_call (HHC.out _)))
    repeat (go_big_quiet_step (fail))
    go_big_quiet_step ((go_at_call 21; exact sub_call (HFC.out _)))
    repeat (go_big_quiet_step (fail))
    refine wpQuiet_nil ?_
    rintro _ ⟨⟨w2, hb2⟩, rfl⟩
    have q2 := on_below hb1 hb2
    have G2 := hide (HG1.out.on hb2)
    clear hb1 hb2 HG1 t0 t1 t2 t3 hne
    obtain ⟨c0, c1, c2, c3⟩ := G2.out.four
    go_wp2
    go_ret
    exact ⟨rfl, q2⟩
  have hM3 : M ≤ 48 := by omega
  have hHt : h.toNat = H := by rw [HHE.out]; rfl
  have hshr : (281474976710656 : Int) / 2 ^ h.toNat = ((281474976710656 / P : Nat) : Int) := by
    have := pow_int 281474976710656 H
    rw [HPP.out] at this
    rw [hHt]
    exact this
  have hQb : 281474976710656 / P ≤ 281474976710656 := Nat.div_le_self _ _
  obtain ⟨QP, HQP⟩ : ∃ q, Hid (281474976710656 / P = q) := ⟨_, hide rfl⟩
  rw [HQP.out] at hshr hQb
  by_cases hix : i > (QP : Int)
  · refine ⟨false, ⟨(fun e => by cases e), fun e => by
      have h3 := HIF.out.1 e
      have h4 : I * P ≤ 281474976710656 := by
        have := Nat.div_le_self 281474976710656 (2 ^ M)
        omega
      have h5 := (Nat.le_div_iff_mul_le hP0).2 h4
      rw [HQP.out] at h5
      have := HIE.out
      omega⟩, fun w => ?_⟩
    have hix2 : (QP : Int) < i := hix
    clear hHt
    go_enter Tryd.func39, Tryd.ntmps39
    go_wp2_with (first | (refine step_box (cs := c4 h l i n) rfl rfl ?_; intro w1 g1 hg1 hle1 hb1; have HG1 := hide hg1; clear hg1))
    have t0 := Sub.cell HG1.out.four.1
    have t1 := Sub.cell HG1.out.four.2.1
    have t2 := Sub.cell HG1.out.four.2.2.1
    have t3 := Sub.cell HG1.out.four.2.2.2
    have hne := Sub.one w1
    refine wp_region_sub (by kernel_rfl) (by kernel_rfl) ?_
    repeat (go_big_quiet_step (fail))
    go_big_quiet_step ((go_at_call 19; exact sub_call (HHC.out _)))
    repeat (go_big_quiet_step (fail))
    go_big_quiet_step ((go_at_call 21; exact sub_call (HFC.out _)))
    repeat (go_big_quiet_step (fail))
    refine wpQuiet_nil ?_
    rintro _ ⟨⟨w2, hb2⟩, rfl⟩
    have q2 := on_below hb1 hb2
    have G2 := hide (HG1.out.on hb2)
    clear hb1 hb2 HG1 t0 t1 t2 t3 hne
    obtain ⟨c0, c1, c2, c3⟩ := G2.out.four
    go_wp2
    go_ret
    exact ⟨rfl, q2⟩
  · have hX : i * 2 ^ h.toNat = ((I * P : Nat) : Int) := by rw [hHt, HIE.out, ← HPP.out, Int.natCast_mul, Int.natCast_pow]; rfl
    have hXb : I * P ≤ 281474976710656 := by
      have h5 : I ≤ 281474976710656 / P := by rw [HQP.out]; have := HIE.out; omega
      exact (Nat.le_div_iff_mul_le hP0).1 h5
    obtain ⟨X, HX⟩ : ∃ x, Hid (I * P = x) := ⟨_, hide rfl⟩
    rw [HX.out] at hX hXb HIF
    obtain ⟨J1, HJ1⟩ : ∃ x, Hid (X + N = x) := ⟨_, hide rfl⟩
    obtain ⟨J, HJ⟩ : ∃ x, Hid (X + N - 1 = x) := ⟨_, hide rfl⟩
    have k1 : (X : Int) + n = (J1 : Int) := by rw [← HJ1.out, HNE.out]; omega
    have k2 : (J1 : Int) - 1 = (J : Int) := by rw [← HJ1.out, ← HJ.out]; omega
    have k3 : J1 ≤ 281474976710912 := by rw [← HJ1.out]; omega
    have hix2 : ¬ (QP : Int) < i := hix
    have hib : i ≤ 281474976710656 := by omega
    have hD : (281474976710656 : Int) / 2 ^ M = ((281474976710656 / 2 ^ M : Nat) : Int) := pow_int 281474976710656 M
    clear hHt
    by_cases hv : X + N ≤ 281474976710656 / 2 ^ M
    · refine ⟨true, ⟨fun _ => HIF.out.2 hv, fun _ => rfl⟩, fun w => ?_⟩
      have HVC := hide (fun v => validR_yes M J v (by omega) (by rw [hD, ← HJ.out]; omega))
      clear hD hv
      go_enter Tryd.func39, Tryd.ntmps39
      go_wp2_with (first | (refine step_box (cs := c4 h l i n) rfl rfl ?_; intro w1 g1 hg1 hle1 hb1; have HG1 := hide hg1; clear hg1))
      have t0 := Sub.cell HG1.out.four.1
      have t1 := Sub.cell HG1.out.four.2.1
      have t2 := Sub.cell HG1.out.four.2.2.1
      have t3 := Sub.cell HG1.out.four.2.2.2
      have hne := Sub.one w1
      refine wp_region_sub (by kernel_rfl) (by kernel_rfl) ?_
      repeat (go_big_quiet_step (fail))
      go_big_quiet_step ((go_at_call 19; exact sub_call (HHC.out _)))
      repeat (go_big_quiet_step (fail))
      go_big_quiet_step ((go_at_call 21; exact sub_call (HFC.out _)))
      repeat (go_big_quiet_step (fail))
      refine wpQuiet_nil ?_
      rintro _ ⟨⟨w2, hb2⟩, rfl⟩
      have q2 := on_below hb1 hb2
      have G2 := hide (HG1.out.on hb2)
      clear hb1 hb2 HG1 t0 t1 t2 t3 hne
      obtain ⟨c0, c1, c2, c3⟩ := G2.out.four
      go_wp2_with (go_at_call 53; refine (HVC.out _).mono ?_; rintro r w3 ⟨rfl, hb3⟩; have q3 := on_below q2 hb3)
      go_ret
      exact ⟨rfl, q3⟩
    · refine ⟨false, ⟨(fun e => by cases e), fun e => absurd (HIF.out.1 e) hv⟩, fun w => ?_⟩
      have HVC := hide (fun v => validR_no (M : Int) (J : Int) v (fun hV => by
        obtain ⟨_, _, _, h4⟩ := hV
        rw [Int.toNat_natCast, hD, ← HJ.out] at h4
        omega))
      clear hD hv
      go_enter Tryd.func39, Tryd.ntmps39
      go_wp2_with (first | (refine step_box (cs := c4 h l i n) rfl rfl ?_; intro w1 g1 hg1 hle1 hb1; have HG1 := hide hg1; clear hg1))
      have t0 := Sub.cell HG1.out.four.1
      have t1 := Sub.cell HG1.out.four.2.1
      have t2 := Sub.cell HG1.out.four.2.2.1
      have t3 := Sub.cell HG1.out.four.2.2.2
      have hne := Sub.one w1
      refine wp_region_sub (by kernel_rfl) (by kernel_rfl) ?_
      repeat (go_big_quiet_step (fail))
      go_big_quiet_step ((go_at_call 19; exact sub_call (HHC.out _)))
      repeat (go_big_quiet_step (fail))
      go_big_quiet_step ((go_at_call 21; exact sub_call (HFC.out _)))
      repeat (go_big_quiet_step (fail))
      refine wpQuiet_nil ?_
      rintro _ ⟨⟨w2, hb2⟩, rfl⟩
      have q2 := on_below hb1 hb2
      have G2 := hide (HG1.out.on hb2)
      clear hb1 hb2 HG1 t0 t1 t2 t3 hne
      obtain ⟨c0, c1, c2, c3⟩ := G2.out.four
      go_wp2_with (go_at_call 53; refine (HVC.out _).mono ?_; rintro r w3 ⟨rfl, hb3⟩; have q3 := on_below q2 hb3)
      go_ret
      exact ⟨rfl, q3⟩

end Go.Proofs.YtlgcjdgcgnlcaaaDoor
