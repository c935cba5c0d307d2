/-
  Texts one behind the other: MgLaw FrD Con3.
-/
import Derived.Test.YthgfbcndoedacaaDoorPkN
import Derived.Test.YthgfbcndoedacaaDoorPkF
import Derived.Test.YthgfbcndoedacaaDoorPkB
import Derived.Deep.Slices
import Derived.Test.YthgfbcndoedacaaDoorPkJ
import Derived.Stop.LaidErr

/-
  The walk of CompactMerges.
-/
namespace Go.Proofs.YthgfbcndoedacaaDoor
open Go.RowKit Go.Shelf
set_option linter.unusedVariables false

/-- A number brought among 0 .. n - 1. -/
theorem aux_mod (x : Int) (n : Nat) (h0 : 0 < n) (hn : n ≤ 281474976710656) : ∃ (r : Int) (b : Nat), x.tmod (n : Int) = r ∧ wrap64 (r + (n : Int)) = r + (n : Int) ∧ (r + (n : Int)).tmod (n : Int) = (b : Int) ∧ b < n ∧ wrap64 r = r := by
  refine ⟨x.tmod n, ((x.tmod n + n).tmod n).toNat, rfl, ?_, ?_, ?_, ?_⟩
  all_goals
    have h1 := Int.tmod_lt_of_pos x (show (0 : Int) < (n : Int) by omega)
    have h2 : -(n : Int) < x.tmod n := by
      have := Int.lt_tmod_of_pos x (show (0 : Int) < (n : Int) by omega)
      omega
    generalize x.tmod n = r at *
  · unfold wrap64; omega
  · have h3 := Int.tmod_nonneg (n : Int) (show 0 ≤ r + n by omega)
    omega
  · have h3 := Int.tmod_lt_of_pos (r + n) (show (0 : Int) < (n : Int) by omega)
    have h4 := Int.tmod_nonneg (n : Int) (show 0 ≤ r + n by omega)
    omega
  · unfold wrap64; omega

set_option maxRecDepth 100000 in
set_option maxHeartbeats 1000000 in
theorem cmerge_walk (a : Option Addr) (n cap : Nat) (xs : List Int) (x y : Int) (w : World) (hs : Ds w a n cap xs) (hc : cap ≤ 4398046510976) (hw : (Lit.int .i64 x).wf = true) (hw2 : (Lit.int .i64 y).wf = true) (hk : KT w) (ht : TT w) :
    Calls Tryd.prog 7 #[.slice a n cap, .int .i64 x, .int .i64 y] w fun e w' => e = .returned (.bool true) ∧ Below w.heap.size w w' := by
  have HS := hide hs
  have HK := hide hk
  have HT := hide ht
  have hcap := hs.hcap
  obtain ⟨N, HN⟩ : ∃ N, Hid (n + 1 = N) := ⟨_, hide rfl⟩
  obtain ⟨r0, i, e1, e2, e3, hi, e4⟩ := aux_mod x N (by rw [← HN.out]; omega) (by rw [← HN.out]; omega)
  obtain ⟨r1, j, f1, f2, f3, hj, f4⟩ := aux_mod y N (by rw [← HN.out]; omega) (by rw [← HN.out]; omega)
  have hN0 : ¬ ((N : Int) = 0) := by rw [← HN.out]; omega
  have hwn : wrap64 ((n : Int) + 1) = (N : Int) := by rw [← HN.out]; unfold wrap64; omega
  have hin : i ≤ n := by rw [← HN.out] at hi; omega
  have hjn : j ≤ n := by rw [← HN.out] at hj; omega
  have hnb : n ≤ 4398046510976 := by omega
  obtain ⟨s0, HS0⟩ : ∃ s, Hid (r0 + (N : Int) = s) := ⟨_, hide rfl⟩
  obtain ⟨s1, HS1⟩ : ∃ s, Hid (r1 + (N : Int) = s) := ⟨_, hide rfl⟩
  rw [HS0.out] at e3
  rw [HS1.out] at f3
  have e2' : wrap64 (r0 + (N : Int)) = s0 := by rw [e2]; exact HS0.out
  have f2' : wrap64 (r1 + (N : Int)) = s1 := by rw [f2]; exact HS1.out
  have hNc : (N : Int) = (n : Int) + 1 := by rw [← HN.out]; omega
  rw [hNc] at e1 e2' e3 f1 f2' f3 hN0
  clear hs hk ht hw hw2 hi hj e2 f2 HS0 HS1 hc hcap hNc hwn HN e4 f4
  have hn47 : n ≤ 140737488355328 := by omega
  have HGL := hide (rps_good HS.out.hlen HS.out.hbyte (Nat.zero_le n) (Nat.le_refl _) hn47)
  obtain ⟨k1, k2, k3, k4⟩ := rgB_back HGL.out (rps_nodes xs 0 n) (Nat.zero_le n) (by omega)
  obtain ⟨BB, HB⟩ : ∃ BB, Hid (rgB 0 n (rps xs 0 n) = BB) := ⟨_, hide rfl⟩
  have hbl := rgB_length (b := 0) (e := n) HGL.out
  have hcn : (rps xs 0 n).length ≤ 98 := by have := parts_98 0 n (by omega); rw [← rps_nodes xs 0 n, List.length_map] at this; exact this
  rw [HB.out] at k1 k2 k3 k4 hbl
  have HBL : Hid (BB.length ≤ 140737488355328) := hide (by omega)
  have HBB : Hid (isB BB) := hide (by rw [← HB.out]; exact rgB_isB HGL.out)
  have HB0 : Hid (0 = (rdV BB 0 8).toNat) := hide k1.symm
  have HBN : Hid (n = (rdV BB 8 8).toNat) := hide k2.symm
  have HBK := hide k3
  have HBP := hide k4
  obtain ⟨mB, HmB⟩ : ∃ m, Hid (BB.length = m) := ⟨_, hide rfl⟩
  have HBY : Hid (∀ (V : World) (g : Nat) (u : Value), Rg V w.heap.size g 0 n u (rps xs 0 n) → Calls Tryd.prog 25 #[.pointer (some ⟨g, 0, none⟩)] V fun r w' => ∃ gb, r = .returned (.slice (some ⟨gb, 0, none⟩) mB mB) ∧ Sl w' (some ⟨gb, 0, none⟩) mB mB BB ∧ Below V.heap.size V w') := hide (fun V g u hr => (rbytes_any _ g 0 n u (rps xs 0 n) V hr).mono (by
    rintro r w' ⟨gb, rfl, h1, h2, h3⟩
    rw [HB.out] at h1 ⊢
    have h4 := blk_sl h1 HBB.out HBL.out
    rw [HmB.out] at h4 ⊢
    exact ⟨gb, rfl, h4, h3⟩))
  clear k1 k2 k3 k4 hbl hcn
  by_cases hij : (j : Int) < (i : Int)
  · have hji : j ≤ i := by omega
    go_enter Tryd.func7, Tryd.ntmps7
    go_wp2_with fail
    refine (ranged_any a n cap 0 j _ _ xs _ HS.out rfl rfl (Nat.zero_le _) hjn hn47 HK.out).mono ?_
    rintro r W1 ⟨g1, v1, rfl, hr1, hl1, hb1⟩
    have A1 := hide ((All.nil (Below.refl _ _)).push hb1 hr1 hl1)
    clear hr1 hl1 hb1
    go_wp2_with fail
    refine (ranged_any a n cap j i _ _ xs _ (HS.out.below A1.out.bel) rfl rfl hji hin hn47 (HK.out.below A1.out.bel HK.out.lt)).mono ?_
    rintro r W2 ⟨g2, v2, rfl, hr2, hl2, hb2⟩
    have A2 := hide (A1.out.push hb2 hr2 hl2)
    clear hr2 hl2 hb2 A1
    go_wp2_with fail
    refine (ranged_any a n cap i n _ _ xs _ (HS.out.below A2.out.bel) rfl rfl hin (Nat.le_refl _) hn47 (HK.out.below A2.out.bel HK.out.lt)).mono ?_
    rintro r W3 ⟨g3, v3, rfl, hr3, hl3, hb3⟩
    have A3 := hide (A2.out.push hb3 hr3 hl3)
    clear hr3 hl3 hb3 A2
    go_wp2_with fail
    refine (rclone_any _ g1 0 j v1 _ _ (A3.out.rg 0 _ rfl)).mono ?_
    rintro r W4 ⟨g4, v4, rfl, hr4, hl4, hb4⟩
    have A4 := hide (A3.out.push hb4 hr4 hl4)
    clear hr4 hl4 hb4 A3
    go_wp2_with fail
    refine (rclone_any _ g2 j i v2 _ _ (A4.out.rg 1 _ rfl)).mono ?_
    rintro r W5 ⟨g5, v5, rfl, hr5, hl5, hb5⟩
    have A5 := hide (A4.out.push hb5 hr5 hl5)
    clear hr5 hl5 hb5 A4
    go_wp2_with fail
    refine (ranged_any a n cap 0 n _ _ xs _ (HS.out.below A5.out.bel) rfl rfl (Nat.zero_le _) (Nat.le_refl _) hn47 (HK.out.below A5.out.bel HK.out.lt)).mono ?_
    rintro r W6 ⟨g6, v6, rfl, hr6, hl6, hb6⟩
    have A6 : Hid (All w W6 [⟨g1, 0, j, v1, rps xs 0 j⟩, ⟨g2, j, i, v2, rps xs j i⟩, ⟨g3, i, n, v3, rps xs i n⟩, ⟨g4, 0, j, v4, rps xs 0 j⟩, ⟨g5, j, i, v5, rps xs j i⟩, ⟨g6, 0, n, v6, rps xs 0 n⟩]) := hide (A5.out.push hb6 hr6 hl6)
    clear hr6 hl6 hb6 A5
    go_wp2_with fail
    refine (rmerge_ok w.heap.size g1 0 j v1 (rps xs 0 j) w.heap.size g2 i v2 (rps xs j i) _ (A6.out.rg 0 _ rfl) (A6.out.rg 1 _ rfl) (A6.out.dj 1 0 _ _ (by decide) rfl rfl) A6.out.bel.size (HK.out.below A6.out.bel HK.out.lt) (Nat.lt_of_lt_of_le HK.out.lt (A6.out.ge 0 _ rfl)) HK.out.lt).mono ?_
    rintro r W7 ⟨u1, rfl, hr7, hc7, hm7⟩
    rw [rps_merge HS.out.hlen hn47 _ 0 j i (Nat.le_refl _) (Nat.zero_le _) hji hin] at hr7
    have A7 : Hid (All w W7 [⟨g1, 0, i, u1, rps xs 0 i⟩, ⟨g2, j, i, v2, rps xs j i⟩, ⟨g3, i, n, v3, rps xs i n⟩, ⟨g4, 0, j, v4, rps xs 0 j⟩, ⟨g5, j, i, v5, rps xs j i⟩, ⟨g6, 0, n, v6, rps xs 0 n⟩]) := hide (A6.out.set 0 rfl hr7 hc7 hm7)
    clear hr7 hc7 hm7 A6
    go_wp2_with fail
    refine (rmerge_ok w.heap.size g1 0 i u1 (rps xs 0 i) w.heap.size g3 n v3 (rps xs i n) _ (A7.out.rg 0 _ rfl) (A7.out.rg 2 _ rfl) (A7.out.dj 2 0 _ _ (by decide) rfl rfl) A7.out.bel.size (HK.out.below A7.out.bel HK.out.lt) (Nat.lt_of_lt_of_le HK.out.lt (A7.out.ge 0 _ rfl)) HK.out.lt).mono ?_
    rintro r W8 ⟨u2, rfl, hr8, hc8, hm8⟩
    rw [rps_merge HS.out.hlen hn47 _ 0 i n (Nat.le_refl _) (Nat.zero_le _) hin (Nat.le_refl _)] at hr8
    have A8 : Hid (All w W8 [⟨g1, 0, n, u2, rps xs 0 n⟩, ⟨g2, j, i, v2, rps xs j i⟩, ⟨g3, i, n, v3, rps xs i n⟩, ⟨g4, 0, j, v4, rps xs 0 j⟩, ⟨g5, j, i, v5, rps xs j i⟩, ⟨g6, 0, n, v6, rps xs 0 n⟩]) := hide (A7.out.set 0 rfl hr8 hc8 hm8)
    clear hr8 hc8 hm8 A7
    go_wp2_with fail
    refine (rmerge_ok w.heap.size g5 j i v5 (rps xs j i) w.heap.size g3 n v3 (rps xs i n) _ (A8.out.rg 4 _ rfl) (A8.out.rg 2 _ rfl) (A8.out.dj 2 4 _ _ (by decide) rfl rfl) A8.out.bel.size (HK.out.below A8.out.bel HK.out.lt) (Nat.lt_of_lt_of_le HK.out.lt (A8.out.ge 4 _ rfl)) HK.out.lt).mono ?_
    rintro r W9 ⟨u3, rfl, hr9, hc9, hm9⟩
    rw [rps_merge HS.out.hlen hn47 _ j i n (Nat.le_refl _) hji hin (Nat.le_refl _)] at hr9
    have A9 : Hid (All w W9 [⟨g1, 0, n, u2, rps xs 0 n⟩, ⟨g2, j, i, v2, rps xs j i⟩, ⟨g3, i, n, v3, rps xs i n⟩, ⟨g4, 0, j, v4, rps xs 0 j⟩, ⟨g5, j, n, u3, rps xs j n⟩, ⟨g6, 0, n, v6, rps xs 0 n⟩]) := hide (A8.out.set 4 rfl hr9 hc9 hm9)
    clear hr9 hc9 hm9 A8
    go_wp2_with fail
    refine (rmerge_ok w.heap.size g4 0 j v4 (rps xs 0 j) w.heap.size g5 n u3 (rps xs j n) _ (A9.out.rg 3 _ rfl) (A9.out.rg 4 _ rfl) (A9.out.dj 4 3 _ _ (by decide) rfl rfl) A9.out.bel.size (HK.out.below A9.out.bel HK.out.lt) (Nat.lt_of_lt_of_le HK.out.lt (A9.out.ge 3 _ rfl)) HK.out.lt).mono ?_
    rintro r W10 ⟨u4, rfl, hr10, hc10, hm10⟩
    rw [rps_merge HS.out.hlen hn47 _ 0 j n (Nat.le_refl _) (Nat.zero_le _) hjn (Nat.le_refl _)] at hr10
    have A10 : Hid (All w W10 [⟨g1, 0, n, u2, rps xs 0 n⟩, ⟨g2, j, i, v2, rps xs j i⟩, ⟨g3, i, n, v3, rps xs i n⟩, ⟨g4, 0, n, u4, rps xs 0 n⟩, ⟨g5, j, n, u3, rps xs j n⟩, ⟨g6, 0, n, v6, rps xs 0 n⟩]) := hide (A9.out.set 3 rfl hr10 hc10 hm10)
    clear hr10 hc10 hm10 A9
    go_wp2_with fail
    refine (rbytes_any _ g6 0 n v6 (rps xs 0 n) _ (A10.out.rg 5 _ rfl)).mono ?_
    rintro r W11 ⟨gz, rfl, hz11, hlz, hb11⟩
    rw [HB.out] at hz11
    have A11 := hide (A10.out.below hb11)
    have HZ := hide (blk_sl hz11 HBB.out HBL.out)
    clear hz11 hlz hb11 A10
    rw [HB.out]
    go_wp2_with fail
    refine (load_any _ _ _ BB _ HZ.out (HT.out.below A11.out.bel HT.out.lt) 0 n HB0.out HBN.out).mono ?_
    rintro r W12 ⟨hb12, (⟨_, g7, v7, rfl, hr12, hl12⟩ | ⟨hno, _⟩)⟩
    rotate_left
    · exact absurd HBK.out hno
    rw [HBP.out] at hr12
    have A12 := hide (A11.out.push hb12 hr12 hl12)
    have FF : Hid (F4 w.heap.size n (rps xs 0 n) g1 g4 g7 g6 u2 u4 v7 v6 W12) := hide ⟨A12.out.rg 0 _ rfl, A12.out.rg 3 _ rfl, A12.out.rg 6 _ rfl, A12.out.rg 5 _ rfl⟩
    have BE := hide A12.out.bel
    clear hr12 hl12 hb12 A11 A12 HZ
    go_wp2_with fail
    refine wp_region_noPanic ?_
    have bd := (Below.refl W12.heap.size W12).drew
    have F0 : Hid (SS w.heap.size n (rps xs 0 n) g1 g4 g7 g6 u2 u4 v7 v6 BB mB [] W12.drew) := hide ⟨FF.out.below bd, fun g hg => by cases hg⟩
    have E0 := hide (BE.out.trans (bd.mono BE.out.size))
    clear bd FF BE
    refine wp_region_held_drew (S := SS w.heap.size n (rps xs 0 n) g1 g4 g7 g6 u2 u4 v7 v6 BB mB []) (by kernel_rfl) F0.out (fun hHeld => ?_)
    refine takeH 0 112 (.int .i64 0) hHeld rfl rfl (by kernel_rfl) (by kernel_rfl) (by kernel_rfl) (fun _ _ _ h => h) (Or.inl ⟨by rfl, fun w _ => by go_simp⟩) ?_
    simp only [Act.put, List.setIfInBounds_toArray, List.set_cons_zero, List.set_cons_succ]
    refine takeH 1 113 (.bool true) hHeld rfl rfl (by kernel_rfl) (by kernel_rfl) (by kernel_rfl) (fun _ _ _ h => h) (Or.inl ⟨by rfl, fun w _ => by go_simp⟩) ?_
    simp only [Act.put, List.setIfInBounds_toArray, List.set_cons_zero, List.set_cons_succ]
    refine takeH 2 114 (.bool true) hHeld rfl rfl (by kernel_rfl) (by kernel_rfl) (by kernel_rfl) (fun _ _ _ h => h) (Or.inl ⟨by rfl, fun w _ => by go_simp⟩) ?_
    simp only [Act.put, List.setIfInBounds_toArray, List.set_cons_zero, List.set_cons_succ]
    refine takeH 3 115 (.pointer (some ⟨g1, 0, none⟩)) hHeld rfl rfl (by kernel_rfl) (by kernel_rfl) (by kernel_rfl) (fun _ _ _ h => h) (Or.inl ⟨by rfl, fun w _ => by go_simp⟩) ?_
    simp only [Act.put, List.setIfInBounds_toArray, List.set_cons_zero, List.set_cons_succ]
    refine takeH 6 118 (.pointer (some ⟨g6, 0, none⟩)) hHeld rfl rfl (by kernel_rfl) (by kernel_rfl) (by kernel_rfl) (fun _ _ _ h => h) (Or.inl ⟨by rfl, fun w _ => by go_simp⟩) ?_
    simp only [Act.put, List.setIfInBounds_toArray, List.set_cons_zero, List.set_cons_succ]
    refine wpAnyH_ready (rs := [4]) (by kernel_rfl) (by simp) (AllReadyH.cons rfl (fun K hK => ?_) AllReadyH.nil)
    rw [if_pos (by rfl)]
    go_simp
    refine (HBY.out _ g1 u2 F0.out.1.r1).mono ?_
    rintro r V1 ⟨gb1, rfl, hsl1, hv1⟩
    have F1 := hide ((F0.out.below hv1).push hsl1)
    have E1 := hide (E0.out.trans (hv1.mono E0.out.size))
    refine hK.out _ _ (F1.out.less) (fun hHeld => ?_)
    clear hK K hsl1 hv1
    refine wpAnyH_more (SS w.heap.size n (rps xs 0 n) g1 g4 g7 g6 u2 u4 v7 v6 BB mB (gb1 :: [])) (fun V h => h.less) _ _ _ _ ?_
    clear hHeld
    have hHeld := F1.out
    refine takeH 5 117 (.string (str BB)) hHeld rfl rfl (by kernel_rfl) (by kernel_rfl) (by kernel_rfl) (fun _ _ _ h => h) (Or.inl ⟨by rfl, fun V hV => run_op rfl (toStr (hV.2 gb1 (List.mem_cons_self ..)))⟩) ?_
    simp only [Act.put, List.setIfInBounds_toArray, List.set_cons_zero, List.set_cons_succ]
    refine wpAnyH_ready (rs := [7]) (by kernel_rfl) (by simp) (AllReadyH.cons rfl (fun K hK => ?_) AllReadyH.nil)
    rw [if_pos (by rfl)]
    go_simp
    refine (HBY.out _ g6 v6 F1.out.1.r4).mono ?_
    rintro r V2 ⟨gb2, rfl, hsl2, hv2⟩
    have F2 := hide ((F1.out.below hv2).push hsl2)
    have E2 := hide (E1.out.trans (hv2.mono E1.out.size))
    refine hK.out _ _ (F2.out.less) (fun hHeld => ?_)
    clear hK K hsl2 hv2
    refine wpAnyH_more (SS w.heap.size n (rps xs 0 n) g1 g4 g7 g6 u2 u4 v7 v6 BB mB (gb2 :: [gb1])) (fun V h => h.less) _ _ _ _ ?_
    clear hHeld
    have hHeld := F2.out
    refine takeH 8 120 (.string (str BB)) hHeld rfl rfl (by kernel_rfl) (by kernel_rfl) (by kernel_rfl) (fun _ _ _ h => h) (Or.inl ⟨by rfl, fun V hV => run_op rfl (toStr (hV.2 gb2 (List.mem_cons_self ..)))⟩) ?_
    simp only [Act.put, List.setIfInBounds_toArray, List.set_cons_zero, List.set_cons_succ]
    refine takeH 9 121 (.bool true) hHeld rfl rfl (by kernel_rfl) (by kernel_rfl) (by kernel_rfl) (fun _ _ _ h => h) (Or.inl ⟨by rfl, fun w _ => by go_simp⟩) ?_
    simp only [Act.put, List.setIfInBounds_toArray, List.set_cons_zero, List.set_cons_succ]
    refine takeH 10 122 (.bool true) hHeld rfl rfl (by kernel_rfl) (by kernel_rfl) (by kernel_rfl) (fun _ _ _ h => h) (Or.inl ⟨by rfl, fun w _ => by go_simp⟩) ?_
    simp only [Act.put, List.setIfInBounds_toArray, List.set_cons_zero, List.set_cons_succ]
    refine takeH 11 123 (.bool true) hHeld rfl rfl (by kernel_rfl) (by kernel_rfl) (by kernel_rfl) (fun _ _ _ h => h) (Or.inl ⟨by rfl, fun w _ => by go_simp⟩) ?_
    simp only [Act.put, List.setIfInBounds_toArray, List.set_cons_zero, List.set_cons_succ]
    refine takeH 12 124 (.pointer (some ⟨g4, 0, none⟩)) hHeld rfl rfl (by kernel_rfl) (by kernel_rfl) (by kernel_rfl) (fun _ _ _ h => h) (Or.inl ⟨by rfl, fun w _ => by go_simp⟩) ?_
    simp only [Act.put, List.setIfInBounds_toArray, List.set_cons_zero, List.set_cons_succ]
    refine takeH 15 127 (.pointer (some ⟨g6, 0, none⟩)) hHeld rfl rfl (by kernel_rfl) (by kernel_rfl) (by kernel_rfl) (fun _ _ _ h => h) (Or.inl ⟨by rfl, fun w _ => by go_simp⟩) ?_
    simp only [Act.put, List.setIfInBounds_toArray, List.set_cons_zero, List.set_cons_succ]
    refine wpAnyH_ready (rs := [13]) (by kernel_rfl) (by simp) (AllReadyH.cons rfl (fun K hK => ?_) AllReadyH.nil)
    rw [if_pos (by rfl)]
    go_simp
    refine (HBY.out _ g4 u4 F2.out.1.r2).mono ?_
    rintro r V3 ⟨gb3, rfl, hsl3, hv3⟩
    have F3 := hide ((F2.out.below hv3).push hsl3)
    have E3 := hide (E2.out.trans (hv3.mono E2.out.size))
    refine hK.out _ _ (F3.out.less) (fun hHeld => ?_)
    clear hK K hsl3 hv3
    refine wpAnyH_more (SS w.heap.size n (rps xs 0 n) g1 g4 g7 g6 u2 u4 v7 v6 BB mB (gb3 :: [gb2, gb1])) (fun V h => h.less) _ _ _ _ ?_
    clear hHeld
    have hHeld := F3.out
    refine takeH 14 126 (.string (str BB)) hHeld rfl rfl (by kernel_rfl) (by kernel_rfl) (by kernel_rfl) (fun _ _ _ h => h) (Or.inl ⟨by rfl, fun V hV => run_op rfl (toStr (hV.2 gb3 (List.mem_cons_self ..)))⟩) ?_
    simp only [Act.put, List.setIfInBounds_toArray, List.set_cons_zero, List.set_cons_succ]
    refine wpAnyH_ready (rs := [16]) (by kernel_rfl) (by simp) (AllReadyH.cons rfl (fun K hK => ?_) AllReadyH.nil)
    rw [if_pos (by rfl)]
    go_simp
    refine (HBY.out _ g6 v6 F3.out.1.r4).mono ?_
    rintro r V4 ⟨gb4, rfl, hsl4, hv4⟩
    have F4 := hide ((F3.out.below hv4).push hsl4)
    have E4 := hide (E3.out.trans (hv4.mono E3.out.size))
    refine hK.out _ _ (F4.out.less) (fun hHeld => ?_)
    clear hK K hsl4 hv4
    refine wpAnyH_more (SS w.heap.size n (rps xs 0 n) g1 g4 g7 g6 u2 u4 v7 v6 BB mB (gb4 :: [gb3, gb2, gb1])) (fun V h => h.less) _ _ _ _ ?_
    clear hHeld
    have hHeld := F4.out
    refine takeH 17 129 (.string (str BB)) hHeld rfl rfl (by kernel_rfl) (by kernel_rfl) (by kernel_rfl) (fun _ _ _ h => h) (Or.inl ⟨by rfl, fun V hV => run_op rfl (toStr (hV.2 gb4 (List.mem_cons_self ..)))⟩) ?_
    simp only [Act.put, List.setIfInBounds_toArray, List.set_cons_zero, List.set_cons_succ]
    refine takeH 18 130 (.bool true) hHeld rfl rfl (by kernel_rfl) (by kernel_rfl) (by kernel_rfl) (fun _ _ _ h => h) (Or.inl ⟨by rfl, fun w _ => by go_simp⟩) ?_
    simp only [Act.put, List.setIfInBounds_toArray, List.set_cons_zero, List.set_cons_succ]
    refine takeH 19 131 (.bool true) hHeld rfl rfl (by kernel_rfl) (by kernel_rfl) (by kernel_rfl) (fun _ _ _ h => h) (Or.inl ⟨by rfl, fun w _ => by go_simp⟩) ?_
    simp only [Act.put, List.setIfInBounds_toArray, List.set_cons_zero, List.set_cons_succ]
    refine takeH 20 132 (.bool true) hHeld rfl rfl (by kernel_rfl) (by kernel_rfl) (by kernel_rfl) (fun _ _ _ h => h) (Or.inl ⟨by rfl, fun w _ => by go_simp⟩) ?_
    simp only [Act.put, List.setIfInBounds_toArray, List.set_cons_zero, List.set_cons_succ]
    refine takeH 21 133 (.pointer (some ⟨g7, 0, none⟩)) hHeld rfl rfl (by kernel_rfl) (by kernel_rfl) (by kernel_rfl) (fun _ _ _ h => h) (Or.inl ⟨by rfl, fun w _ => by go_simp⟩) ?_
    simp only [Act.put, List.setIfInBounds_toArray, List.set_cons_zero, List.set_cons_succ]
    refine takeH 24 136 (.pointer (some ⟨g6, 0, none⟩)) hHeld rfl rfl (by kernel_rfl) (by kernel_rfl) (by kernel_rfl) (fun _ _ _ h => h) (Or.inl ⟨by rfl, fun w _ => by go_simp⟩) ?_
    simp only [Act.put, List.setIfInBounds_toArray, List.set_cons_zero, List.set_cons_succ]
    refine wpAnyH_ready (rs := [22]) (by kernel_rfl) (by simp) (AllReadyH.cons rfl (fun K hK => ?_) AllReadyH.nil)
    rw [if_pos (by rfl)]
    go_simp
    refine (HBY.out _ g7 v7 F4.out.1.r3).mono ?_
    rintro r V5 ⟨gb5, rfl, hsl5, hv5⟩
    have F5 := hide ((F4.out.below hv5).push hsl5)
    have E5 := hide (E4.out.trans (hv5.mono E4.out.size))
    refine hK.out _ _ (F5.out.less) (fun hHeld => ?_)
    clear hK K hsl5 hv5
    refine wpAnyH_more (SS w.heap.size n (rps xs 0 n) g1 g4 g7 g6 u2 u4 v7 v6 BB mB (gb5 :: [gb4, gb3, gb2, gb1])) (fun V h => h.less) _ _ _ _ ?_
    clear hHeld
    have hHeld := F5.out
    refine takeH 23 135 (.string (str BB)) hHeld rfl rfl (by kernel_rfl) (by kernel_rfl) (by kernel_rfl) (fun _ _ _ h => h) (Or.inl ⟨by rfl, fun V hV => run_op rfl (toStr (hV.2 gb5 (List.mem_cons_self ..)))⟩) ?_
    simp only [Act.put, List.setIfInBounds_toArray, List.set_cons_zero, List.set_cons_succ]
    refine wpAnyH_ready (rs := [25]) (by kernel_rfl) (by simp) (AllReadyH.cons rfl (fun K hK => ?_) AllReadyH.nil)
    rw [if_pos (by rfl)]
    go_simp
    refine (HBY.out _ g6 v6 F5.out.1.r4).mono ?_
    rintro r V6 ⟨gb6, rfl, hsl6, hv6⟩
    have F6 := hide ((F5.out.below hv6).push hsl6)
    have E6 := hide (E5.out.trans (hv6.mono E5.out.size))
    refine hK.out _ _ (F6.out.less) (fun hHeld => ?_)
    clear hK K hsl6 hv6
    refine wpAnyH_more (SS w.heap.size n (rps xs 0 n) g1 g4 g7 g6 u2 u4 v7 v6 BB mB (gb6 :: [gb5, gb4, gb3, gb2, gb1])) (fun V h => h.less) _ _ _ _ ?_
    clear hHeld
    have hHeld := F6.out
    refine takeH 26 138 (.string (str BB)) hHeld rfl rfl (by kernel_rfl) (by kernel_rfl) (by kernel_rfl) (fun _ _ _ h => h) (Or.inl ⟨by rfl, fun V hV => run_op rfl (toStr (hV.2 gb6 (List.mem_cons_self ..)))⟩) ?_
    simp only [Act.put, List.setIfInBounds_toArray, List.set_cons_zero, List.set_cons_succ]
    refine takeH 27 139 (.bool true) hHeld rfl rfl (by kernel_rfl) (by kernel_rfl) (by kernel_rfl) (fun _ _ _ h => h) (Or.inl ⟨by rfl, fun w _ => by go_simp⟩) ?_
    simp only [Act.put, List.setIfInBounds_toArray, List.set_cons_zero, List.set_cons_succ]
    refine takeH 28 140 (.bool true) hHeld rfl rfl (by kernel_rfl) (by kernel_rfl) (by kernel_rfl) (fun _ _ _ h => h) (Or.inl ⟨by rfl, fun w _ => by go_simp⟩) ?_
    simp only [Act.put, List.setIfInBounds_toArray, List.set_cons_zero, List.set_cons_succ]
    refine takeH 29 141 (.bool true) hHeld rfl rfl (by kernel_rfl) (by kernel_rfl) (by kernel_rfl) (fun _ _ _ h => h) (Or.inl ⟨by rfl, fun w _ => by go_simp⟩) ?_
    simp only [Act.put, List.setIfInBounds_toArray, List.set_cons_zero, List.set_cons_succ]
    refine takeH 30 142 (.pointer (some ⟨g6, 0, none⟩)) hHeld rfl rfl (by kernel_rfl) (by kernel_rfl) (by kernel_rfl) (fun _ _ _ h => h) (Or.inl ⟨by rfl, fun w _ => by go_simp⟩) ?_
    simp only [Act.put, List.setIfInBounds_toArray, List.set_cons_zero, List.set_cons_succ]
    refine takeH 32 144 (.slice a n cap) hHeld rfl rfl (by kernel_rfl) (by kernel_rfl) (by kernel_rfl) (fun _ _ _ h => h) (Or.inl ⟨by rfl, fun w _ => by go_simp⟩) ?_
    simp only [Act.put, List.setIfInBounds_toArray, List.set_cons_zero, List.set_cons_succ]
    refine takeH 33 145 (.int .i64 (n : Int)) hHeld rfl rfl (by kernel_rfl) (by kernel_rfl) (by kernel_rfl) (fun _ _ _ h => h) (Or.inl ⟨by rfl, fun w _ => by go_simp⟩) ?_
    simp only [Act.put, List.setIfInBounds_toArray, List.set_cons_zero, List.set_cons_succ]
    refine takeH 34 146 (.agg #[.int .i64 0, .int .i64 (n : Int)]) hHeld rfl rfl (by kernel_rfl) (by kernel_rfl) (by kernel_rfl) (fun _ _ _ h => h) (Or.inl ⟨by rfl, fun w _ => by go_simp⟩) ?_
    simp only [Act.put, List.setIfInBounds_toArray, List.set_cons_zero, List.set_cons_succ]
    refine wpAnyH_ready (rs := [31]) (by kernel_rfl) (by simp) (AllReadyH.cons rfl (fun K hK => ?_) AllReadyH.nil)
    rw [if_pos (by rfl)]
    go_simp
    refine (rspan_any _ g6 0 n v6 (rps xs 0 n) _ F6.out.1.r4).mono ?_
    rintro r V7 ⟨rfl, hv7⟩
    have F7 := hide (F6.out.below hv7)
    have E7 := hide (E6.out.trans (hv7.mono E6.out.size))
    refine hK.out _ _ (F7.out) (fun hHeld => ?_)
    clear hK K
    clear hv7
    refine takeH 35 147 (.bool true) hHeld rfl rfl (by kernel_rfl) (by kernel_rfl) (by kernel_rfl) (fun _ _ _ h => h) (Or.inl ⟨by rfl, fun w _ => by go_simp⟩) ?_
    simp only [Act.put, List.setIfInBounds_toArray, List.set_cons_zero, List.set_cons_succ]
    refine takeH 36 148 (.bool true) hHeld rfl rfl (by kernel_rfl) (by kernel_rfl) (by kernel_rfl) (fun _ _ _ h => h) (Or.inl ⟨by rfl, fun w _ => by go_simp⟩) ?_
    simp only [Act.put, List.setIfInBounds_toArray, List.set_cons_zero, List.set_cons_succ]
    refine takeH 37 6 (.bool true) hHeld rfl rfl (by kernel_rfl) (by kernel_rfl) (by kernel_rfl) (fun _ _ _ h => h) (Or.inl ⟨by rfl, fun w _ => by go_simp⟩) ?_
    simp only [Act.put, List.setIfInBounds_toArray, List.set_cons_zero, List.set_cons_succ]
    refine wpAnyH_done (by kernel_rfl) ?_ _
    refine NoPanic.normal ?_
    clear hHeld
    go_wp2
    go_ret
    exact ⟨rfl, E7.out⟩
  · have hji : i ≤ j := by omega
    go_enter Tryd.func7, Tryd.ntmps7
    go_wp2_with fail
    refine (ranged_any a n cap 0 i _ _ xs _ HS.out rfl rfl (Nat.zero_le _) hin hn47 HK.out).mono ?_
    rintro r W1 ⟨g1, v1, rfl, hr1, hl1, hb1⟩
    have A1 := hide ((All.nil (Below.refl _ _)).push hb1 hr1 hl1)
    clear hr1 hl1 hb1
    go_wp2_with fail
    refine (ranged_any a n cap i j _ _ xs _ (HS.out.below A1.out.bel) rfl rfl hji hjn hn47 (HK.out.below A1.out.bel HK.out.lt)).mono ?_
    rintro r W2 ⟨g2, v2, rfl, hr2, hl2, hb2⟩
    have A2 := hide (A1.out.push hb2 hr2 hl2)
    clear hr2 hl2 hb2 A1
    go_wp2_with fail
    refine (ranged_any a n cap j n _ _ xs _ (HS.out.below A2.out.bel) rfl rfl hjn (Nat.le_refl _) hn47 (HK.out.below A2.out.bel HK.out.lt)).mono ?_
    rintro r W3 ⟨g3, v3, rfl, hr3, hl3, hb3⟩
    have A3 := hide (A2.out.push hb3 hr3 hl3)
    clear hr3 hl3 hb3 A2
    go_wp2_with fail
    refine (rclone_any _ g1 0 i v1 _ _ (A3.out.rg 0 _ rfl)).mono ?_
    rintro r W4 ⟨g4, v4, rfl, hr4, hl4, hb4⟩
    have A4 := hide (A3.out.push hb4 hr4 hl4)
    clear hr4 hl4 hb4 A3
    go_wp2_with fail
    refine (rclone_any _ g2 i j v2 _ _ (A4.out.rg 1 _ rfl)).mono ?_
    rintro r W5 ⟨g5, v5, rfl, hr5, hl5, hb5⟩
    have A5 := hide (A4.out.push hb5 hr5 hl5)
    clear hr5 hl5 hb5 A4
    go_wp2_with fail
    refine (ranged_any a n cap 0 n _ _ xs _ (HS.out.below A5.out.bel) rfl rfl (Nat.zero_le _) (Nat.le_refl _) hn47 (HK.out.below A5.out.bel HK.out.lt)).mono ?_
    rintro r W6 ⟨g6, v6, rfl, hr6, hl6, hb6⟩
    have A6 : Hid (All w W6 [⟨g1, 0, i, v1, rps xs 0 i⟩, ⟨g2, i, j, v2, rps xs i j⟩, ⟨g3, j, n, v3, rps xs j n⟩, ⟨g4, 0, i, v4, rps xs 0 i⟩, ⟨g5, i, j, v5, rps xs i j⟩, ⟨g6, 0, n, v6, rps xs 0 n⟩]) := hide (A5.out.push hb6 hr6 hl6)
    clear hr6 hl6 hb6 A5
    go_wp2_with fail
    refine (rmerge_ok w.heap.size g1 0 i v1 (rps xs 0 i) w.heap.size g2 j v2 (rps xs i j) _ (A6.out.rg 0 _ rfl) (A6.out.rg 1 _ rfl) (A6.out.dj 1 0 _ _ (by decide) rfl rfl) A6.out.bel.size (HK.out.below A6.out.bel HK.out.lt) (Nat.lt_of_lt_of_le HK.out.lt (A6.out.ge 0 _ rfl)) HK.out.lt).mono ?_
    rintro r W7 ⟨u1, rfl, hr7, hc7, hm7⟩
    rw [rps_merge HS.out.hlen hn47 _ 0 i j (Nat.le_refl _) (Nat.zero_le _) hji hjn] at hr7
    have A7 : Hid (All w W7 [⟨g1, 0, j, u1, rps xs 0 j⟩, ⟨g2, i, j, v2, rps xs i j⟩, ⟨g3, j, n, v3, rps xs j n⟩, ⟨g4, 0, i, v4, rps xs 0 i⟩, ⟨g5, i, j, v5, rps xs i j⟩, ⟨g6, 0, n, v6, rps xs 0 n⟩]) := hide (A6.out.set 0 rfl hr7 hc7 hm7)
    clear hr7 hc7 hm7 A6
    go_wp2_with fail
    refine (rmerge_ok w.heap.size g1 0 j u1 (rps xs 0 j) w.heap.size g3 n v3 (rps xs j n) _ (A7.out.rg 0 _ rfl) (A7.out.rg 2 _ rfl) (A7.out.dj 2 0 _ _ (by decide) rfl rfl) A7.out.bel.size (HK.out.below A7.out.bel HK.out.lt) (Nat.lt_of_lt_of_le HK.out.lt (A7.out.ge 0 _ rfl)) HK.out.lt).mono ?_
    rintro r W8 ⟨u2, rfl, hr8, hc8, hm8⟩
    rw [rps_merge HS.out.hlen hn47 _ 0 j n (Nat.le_refl _) (Nat.zero_le _) hjn (Nat.le_refl _)] at hr8
    have A8 : Hid (All w W8 [⟨g1, 0, n, u2, rps xs 0 n⟩, ⟨g2, i, j, v2, rps xs i j⟩, ⟨g3, j, n, v3, rps xs j n⟩, ⟨g4, 0, i, v4, rps xs 0 i⟩, ⟨g5, i, j, v5, rps xs i j⟩, ⟨g6, 0, n, v6, rps xs 0 n⟩]) := hide (A7.out.set 0 rfl hr8 hc8 hm8)
    clear hr8 hc8 hm8 A7
    go_wp2_with fail
    refine (rmerge_ok w.heap.size g5 i j v5 (rps xs i j) w.heap.size g3 n v3 (rps xs j n) _ (A8.out.rg 4 _ rfl) (A8.out.rg 2 _ rfl) (A8.out.dj 2 4 _ _ (by decide) rfl rfl) A8.out.bel.size (HK.out.below A8.out.bel HK.out.lt) (Nat.lt_of_lt_of_le HK.out.lt (A8.out.ge 4 _ rfl)) HK.out.lt).mono ?_
    rintro r W9 ⟨u3, rfl, hr9, hc9, hm9⟩
    rw [rps_merge HS.out.hlen hn47 _ i j n (Nat.le_refl _) hji hjn (Nat.le_refl _)] at hr9
    have A9 : Hid (All w W9 [⟨g1, 0, n, u2, rps xs 0 n⟩, ⟨g2, i, j, v2, rps xs i j⟩, ⟨g3, j, n, v3, rps xs j n⟩, ⟨g4, 0, i, v4, rps xs 0 i⟩, ⟨g5, i, n, u3, rps xs i n⟩, ⟨g6, 0, n, v6, rps xs 0 n⟩]) := hide (A8.out.set 4 rfl hr9 hc9 hm9)
    clear hr9 hc9 hm9 A8
    go_wp2_with fail
    refine (rmerge_ok w.heap.size g4 0 i v4 (rps xs 0 i) w.heap.size g5 n u3 (rps xs i n) _ (A9.out.rg 3 _ rfl) (A9.out.rg 4 _ rfl) (A9.out.dj 4 3 _ _ (by decide) rfl rfl) A9.out.bel.size (HK.out.below A9.out.bel HK.out.lt) (Nat.lt_of_lt_of_le HK.out.lt (A9.out.ge 3 _ rfl)) HK.out.lt).mono ?_
    rintro r W10 ⟨u4, rfl, hr10, hc10, hm10⟩
    rw [rps_merge HS.out.hlen hn47 _ 0 i n (Nat.le_refl _) (Nat.zero_le _) hin (Nat.le_refl _)] at hr10
    have A10 : Hid (All w W10 [⟨g1, 0, n, u2, rps xs 0 n⟩, ⟨g2, i, j, v2, rps xs i j⟩, ⟨g3, j, n, v3, rps xs j n⟩, ⟨g4, 0, n, u4, rps xs 0 n⟩, ⟨g5, i, n, u3, rps xs i n⟩, ⟨g6, 0, n, v6, rps xs 0 n⟩]) := hide (A9.out.set 3 rfl hr10 hc10 hm10)
    clear hr10 hc10 hm10 A9
    go_wp2_with fail
    refine (rbytes_any _ g6 0 n v6 (rps xs 0 n) _ (A10.out.rg 5 _ rfl)).mono ?_
    rintro r W11 ⟨gz, rfl, hz11, hlz, hb11⟩
    rw [HB.out] at hz11
    have A11 := hide (A10.out.below hb11)
    have HZ := hide (blk_sl hz11 HBB.out HBL.out)
    clear hz11 hlz hb11 A10
    rw [HB.out]
    go_wp2_with fail
    refine (load_any _ _ _ BB _ HZ.out (HT.out.below A11.out.bel HT.out.lt) 0 n HB0.out HBN.out).mono ?_
    rintro r W12 ⟨hb12, (⟨_, g7, v7, rfl, hr12, hl12⟩ | ⟨hno, _⟩)⟩
    rotate_left
    · exact absurd HBK.out hno
    rw [HBP.out] at hr12
    have A12 := hide (A11.out.push hb12 hr12 hl12)
    have FF : Hid (F4 w.heap.size n (rps xs 0 n) g1 g4 g7 g6 u2 u4 v7 v6 W12) := hide ⟨A12.out.rg 0 _ rfl, A12.out.rg 3 _ rfl, A12.out.rg 6 _ rfl, A12.out.rg 5 _ rfl⟩
    have BE := hide A12.out.bel
    clear hr12 hl12 hb12 A11 A12 HZ
    go_wp2_with fail
    refine wp_region_noPanic ?_
    have bd := (Below.refl W12.heap.size W12).drew
    have F0 : Hid (SS w.heap.size n (rps xs 0 n) g1 g4 g7 g6 u2 u4 v7 v6 BB mB [] W12.drew) := hide ⟨FF.out.below bd, fun g hg => by cases hg⟩
    have E0 := hide (BE.out.trans (bd.mono BE.out.size))
    clear bd FF BE
    refine wp_region_held_drew (S := SS w.heap.size n (rps xs 0 n) g1 g4 g7 g6 u2 u4 v7 v6 BB mB []) (by kernel_rfl) F0.out (fun hHeld => ?_)
    refine takeH 0 112 (.int .i64 0) hHeld rfl rfl (by kernel_rfl) (by kernel_rfl) (by kernel_rfl) (fun _ _ _ h => h) (Or.inl ⟨by rfl, fun w _ => by go_simp⟩) ?_
    simp only [Act.put, List.setIfInBounds_toArray, List.set_cons_zero, List.set_cons_succ]
    refine takeH 1 113 (.bool true) hHeld rfl rfl (by kernel_rfl) (by kernel_rfl) (by kernel_rfl) (fun _ _ _ h => h) (Or.inl ⟨by rfl, fun w _ => by go_simp⟩) ?_
    simp only [Act.put, List.setIfInBounds_toArray, List.set_cons_zero, List.set_cons_succ]
    refine takeH 2 114 (.bool true) hHeld rfl rfl (by kernel_rfl) (by kernel_rfl) (by kernel_rfl) (fun _ _ _ h => h) (Or.inl ⟨by rfl, fun w _ => by go_simp⟩) ?_
    simp only [Act.put, List.setIfInBounds_toArray, List.set_cons_zero, List.set_cons_succ]
    refine takeH 3 115 (.pointer (some ⟨g1, 0, none⟩)) hHeld rfl rfl (by kernel_rfl) (by kernel_rfl) (by kernel_rfl) (fun _ _ _ h => h) (Or.inl ⟨by rfl, fun w _ => by go_simp⟩) ?_
    simp only [Act.put, List.setIfInBounds_toArray, List.set_cons_zero, List.set_cons_succ]
    refine takeH 6 118 (.pointer (some ⟨g6, 0, none⟩)) hHeld rfl rfl (by kernel_rfl) (by kernel_rfl) (by kernel_rfl) (fun _ _ _ h => h) (Or.inl ⟨by rfl, fun w _ => by go_simp⟩) ?_
    simp only [Act.put, List.setIfInBounds_toArray, List.set_cons_zero, List.set_cons_succ]
    refine wpAnyH_ready (rs := [4]) (by kernel_rfl) (by simp) (AllReadyH.cons rfl (fun K hK => ?_) AllReadyH.nil)
    rw [if_pos (by rfl)]
    go_simp
    refine (HBY.out _ g1 u2 F0.out.1.r1).mono ?_
    rintro r V1 ⟨gb1, rfl, hsl1, hv1⟩
    have F1 := hide ((F0.out.below hv1).push hsl1)
    have E1 := hide (E0.out.trans (hv1.mono E0.out.size))
    refine hK.out _ _ (F1.out.less) (fun hHeld => ?_)
    clear hK K hsl1 hv1
    refine wpAnyH_more (SS w.heap.size n (rps xs 0 n) g1 g4 g7 g6 u2 u4 v7 v6 BB mB (gb1 :: [])) (fun V h => h.less) _ _ _ _ ?_
    clear hHeld
    have hHeld := F1.out
    refine takeH 5 117 (.string (str BB)) hHeld rfl rfl (by kernel_rfl) (by kernel_rfl) (by kernel_rfl) (fun _ _ _ h => h) (Or.inl ⟨by rfl, fun V hV => run_op rfl (toStr (hV.2 gb1 (List.mem_cons_self ..)))⟩) ?_
    simp only [Act.put, List.setIfInBounds_toArray, List.set_cons_zero, List.set_cons_succ]
    refine wpAnyH_ready (rs := [7]) (by kernel_rfl) (by simp) (AllReadyH.cons rfl (fun K hK => ?_) AllReadyH.nil)
    rw [if_pos (by rfl)]
    go_simp
    refine (HBY.out _ g6 v6 F1.out.1.r4).mono ?_
    rintro r V2 ⟨gb2, rfl, hsl2, hv2⟩
    have F2 := hide ((F1.out.below hv2).push hsl2)
    have E2 := hide (E1.out.trans (hv2.mono E1.out.size))
    refine hK.out _ _ (F2.out.less) (fun hHeld => ?_)
    clear hK K hsl2 hv2
    refine wpAnyH_more (SS w.heap.size n (rps xs 0 n) g1 g4 g7 g6 u2 u4 v7 v6 BB mB (gb2 :: [gb1])) (fun V h => h.less) _ _ _ _ ?_
    clear hHeld
    have hHeld := F2.out
    refine takeH 8 120 (.string (str BB)) hHeld rfl rfl (by kernel_rfl) (by kernel_rfl) (by kernel_rfl) (fun _ _ _ h => h) (Or.inl ⟨by rfl, fun V hV => run_op rfl (toStr (hV.2 gb2 (List.mem_cons_self ..)))⟩) ?_
    simp only [Act.put, List.setIfInBounds_toArray, List.set_cons_zero, List.set_cons_succ]
    refine takeH 9 121 (.bool true) hHeld rfl rfl (by kernel_rfl) (by kernel_rfl) (by kernel_rfl) (fun _ _ _ h => h) (Or.inl ⟨by rfl, fun w _ => by go_simp⟩) ?_
    simp only [Act.put, List.setIfInBounds_toArray, List.set_cons_zero, List.set_cons_succ]
    refine takeH 10 122 (.bool true) hHeld rfl rfl (by kernel_rfl) (by kernel_rfl) (by kernel_rfl) (fun _ _ _ h => h) (Or.inl ⟨by rfl, fun w _ => by go_simp⟩) ?_
    simp only [Act.put, List.setIfInBounds_toArray, List.set_cons_zero, List.set_cons_succ]
    refine takeH 11 123 (.bool true) hHeld rfl rfl (by kernel_rfl) (by kernel_rfl) (by kernel_rfl) (fun _ _ _ h => h) (Or.inl ⟨by rfl, fun w _ => by go_simp⟩) ?_
    simp only [Act.put, List.setIfInBounds_toArray, List.set_cons_zero, List.set_cons_succ]
    refine takeH 12 124 (.pointer (some ⟨g4, 0, none⟩)) hHeld rfl rfl (by kernel_rfl) (by kernel_rfl) (by kernel_rfl) (fun _ _ _ h => h) (Or.inl ⟨by rfl, fun w _ => by go_simp⟩) ?_
    simp only [Act.put, List.setIfInBounds_toArray, List.set_cons_zero, List.set_cons_succ]
    refine takeH 15 127 (.pointer (some ⟨g6, 0, none⟩)) hHeld rfl rfl (by kernel_rfl) (by kernel_rfl) (by kernel_rfl) (fun _ _ _ h => h) (Or.inl ⟨by rfl, fun w _ => by go_simp⟩) ?_
    simp only [Act.put, List.setIfInBounds_toArray, List.set_cons_zero, List.set_cons_succ]
    refine wpAnyH_ready (rs := [13]) (by kernel_rfl) (by simp) (AllReadyH.cons rfl (fun K hK => ?_) AllReadyH.nil)
    rw [if_pos (by rfl)]
    go_simp
    refine (HBY.out _ g4 u4 F2.out.1.r2).mono ?_
    rintro r V3 ⟨gb3, rfl, hsl3, hv3⟩
    have F3 := hide ((F2.out.below hv3).push hsl3)
    have E3 := hide (E2.out.trans (hv3.mono E2.out.size))
    refine hK.out _ _ (F3.out.less) (fun hHeld => ?_)
    clear hK K hsl3 hv3
    refine wpAnyH_more (SS w.heap.size n (rps xs 0 n) g1 g4 g7 g6 u2 u4 v7 v6 BB mB (gb3 :: [gb2, gb1])) (fun V h => h.less) _ _ _ _ ?_
    clear hHeld
    have hHeld := F3.out
    refine takeH 14 126 (.string (str BB)) hHeld rfl rfl (by kernel_rfl) (by kernel_rfl) (by kernel_rfl) (fun _ _ _ h => h) (Or.inl ⟨by rfl, fun V hV => run_op rfl (toStr (hV.2 gb3 (List.mem_cons_self ..)))⟩) ?_
    simp only [Act.put, List.setIfInBounds_toArray, List.set_cons_zero, List.set_cons_succ]
    refine wpAnyH_ready (rs := [16]) (by kernel_rfl) (by simp) (AllReadyH.cons rfl (fun K hK => ?_) AllReadyH.nil)
    rw [if_pos (by rfl)]
    go_simp
    refine (HBY.out _ g6 v6 F3.out.1.r4).mono ?_
    rintro r V4 ⟨gb4, rfl, hsl4, hv4⟩
    have F4 := hide ((F3.out.below hv4).push hsl4)
    have E4 := hide (E3.out.trans (hv4.mono E3.out.size))
    refine hK.out _ _ (F4.out.less) (fun hHeld => ?_)
    clear hK K hsl4 hv4
    refine wpAnyH_more (SS w.heap.size n (rps xs 0 n) g1 g4 g7 g6 u2 u4 v7 v6 BB mB (gb4 :: [gb3, gb2, gb1])) (fun V h => h.less) _ _ _ _ ?_
    clear hHeld
    have hHeld := F4.out
    refine takeH 17 129 (.string (str BB)) hHeld rfl rfl (by kernel_rfl) (by kernel_rfl) (by kernel_rfl) (fun _ _ _ h => h) (Or.inl ⟨by rfl, fun V hV => run_op rfl (toStr (hV.2 gb4 (List.mem_cons_self ..)))⟩) ?_
    simp only [Act.put, List.setIfInBounds_toArray, List.set_cons_zero, List.set_cons_succ]
    refine takeH 18 130 (.bool true) hHeld rfl rfl (by kernel_rfl) (by kernel_rfl) (by kernel_rfl) (fun _ _ _ h => h) (Or.inl ⟨by rfl, fun w _ => by go_simp⟩) ?_
    simp only [Act.put, List.setIfInBounds_toArray, List.set_cons_zero, List.set_cons_succ]
    refine takeH 19 131 (.bool true) hHeld rfl rfl (by kernel_rfl) (by kernel_rfl) (by kernel_rfl) (fun _ _ _ h => h) (Or.inl ⟨by rfl, fun w _ => by go_simp⟩) ?_
    simp only [Act.put, List.setIfInBounds_toArray, List.set_cons_zero, List.set_cons_succ]
    refine takeH 20 132 (.bool true) hHeld rfl rfl (by kernel_rfl) (by kernel_rfl) (by kernel_rfl) (fun _ _ _ h => h) (Or.inl ⟨by rfl, fun w _ => by go_simp⟩) ?_
    simp only [Act.put, List.setIfInBounds_toArray, List.set_cons_zero, List.set_cons_succ]
    refine takeH 21 133 (.pointer (some ⟨g7, 0, none⟩)) hHeld rfl rfl (by kernel_rfl) (by kernel_rfl) (by kernel_rfl) (fun _ _ _ h => h) (Or.inl ⟨by rfl, fun w _ => by go_simp⟩) ?_
    simp only [Act.put, List.setIfInBounds_toArray, List.set_cons_zero, List.set_cons_succ]
    refine takeH 24 136 (.pointer (some ⟨g6, 0, none⟩)) hHeld rfl rfl (by kernel_rfl) (by kernel_rfl) (by kernel_rfl) (fun _ _ _ h => h) (Or.inl ⟨by rfl, fun w _ => by go_simp⟩) ?_
    simp only [Act.put, List.setIfInBounds_toArray, List.set_cons_zero, List.set_cons_succ]
    refine wpAnyH_ready (rs := [22]) (by kernel_rfl) (by simp) (AllReadyH.cons rfl (fun K hK => ?_) AllReadyH.nil)
    rw [if_pos (by rfl)]
    go_simp
    refine (HBY.out _ g7 v7 F4.out.1.r3).mono ?_
    rintro r V5 ⟨gb5, rfl, hsl5, hv5⟩
    have F5 := hide ((F4.out.below hv5).push hsl5)
    have E5 := hide (E4.out.trans (hv5.mono E4.out.size))
    refine hK.out _ _ (F5.out.less) (fun hHeld => ?_)
    clear hK K hsl5 hv5
    refine wpAnyH_more (SS w.heap.size n (rps xs 0 n) g1 g4 g7 g6 u2 u4 v7 v6 BB mB (gb5 :: [gb4, gb3, gb2, gb1])) (fun V h => h.less) _ _ _ _ ?_
    clear hHeld
    have hHeld := F5.out
    refine takeH 23 135 (.string (str BB)) hHeld rfl rfl (by kernel_rfl) (by kernel_rfl) (by kernel_rfl) (fun _ _ _ h => h) (Or.inl ⟨by rfl, fun V hV => run_op rfl (toStr (hV.2 gb5 (List.mem_cons_self ..)))⟩) ?_
    simp only [Act.put, List.setIfInBounds_toArray, List.set_cons_zero, List.set_cons_succ]
    refine wpAnyH_ready (rs := [25]) (by kernel_rfl) (by simp) (AllReadyH.cons rfl (fun K hK => ?_) AllReadyH.nil)
    rw [if_pos (by rfl)]
    go_simp
    refine (HBY.out _ g6 v6 F5.out.1.r4).mono ?_
    rintro r V6 ⟨gb6, rfl, hsl6, hv6⟩
    have F6 := hide ((F5.out.below hv6).push hsl6)
    have E6 := hide (E5.out.trans (hv6.mono E5.out.size))
    refine hK.out _ _ (F6.out.less) (fun hHeld => ?_)
    clear hK K hsl6 hv6
    refine wpAnyH_more (SS w.heap.size n (rps xs 0 n) g1 g4 g7 g6 u2 u4 v7 v6 BB mB (gb6 :: [gb5, gb4, gb3, gb2, gb1])) (fun V h => h.less) _ _ _ _ ?_
    clear hHeld
    have hHeld := F6.out
    refine takeH 26 138 (.string (str BB)) hHeld rfl rfl (by kernel_rfl) (by kernel_rfl) (by kernel_rfl) (fun _ _ _ h => h) (Or.inl ⟨by rfl, fun V hV => run_op rfl (toStr (hV.2 gb6 (List.mem_cons_self ..)))⟩) ?_
    simp only [Act.put, List.setIfInBounds_toArray, List.set_cons_zero, List.set_cons_succ]
    refine takeH 27 139 (.bool true) hHeld rfl rfl (by kernel_rfl) (by kernel_rfl) (by kernel_rfl) (fun _ _ _ h => h) (Or.inl ⟨by rfl, fun w _ => by go_simp⟩) ?_
    simp only [Act.put, List.setIfInBounds_toArray, List.set_cons_zero, List.set_cons_succ]
    refine takeH 28 140 (.bool true) hHeld rfl rfl (by kernel_rfl) (by kernel_rfl) (by kernel_rfl) (fun _ _ _ h => h) (Or.inl ⟨by rfl, fun w _ => by go_simp⟩) ?_
    simp only [Act.put, List.setIfInBounds_toArray, List.set_cons_zero, List.set_cons_succ]
    refine takeH 29 141 (.bool true) hHeld rfl rfl (by kernel_rfl) (by kernel_rfl) (by kernel_rfl) (fun _ _ _ h => h) (Or.inl ⟨by rfl, fun w _ => by go_simp⟩) ?_
    simp only [Act.put, List.setIfInBounds_toArray, List.set_cons_zero, List.set_cons_succ]
    refine takeH 30 142 (.pointer (some ⟨g6, 0, none⟩)) hHeld rfl rfl (by kernel_rfl) (by kernel_rfl) (by kernel_rfl) (fun _ _ _ h => h) (Or.inl ⟨by rfl, fun w _ => by go_simp⟩) ?_
    simp only [Act.put, List.setIfInBounds_toArray, List.set_cons_zero, List.set_cons_succ]
    refine takeH 32 144 (.slice a n cap) hHeld rfl rfl (by kernel_rfl) (by kernel_rfl) (by kernel_rfl) (fun _ _ _ h => h) (Or.inl ⟨by rfl, fun w _ => by go_simp⟩) ?_
    simp only [Act.put, List.setIfInBounds_toArray, List.set_cons_zero, List.set_cons_succ]
    refine takeH 33 145 (.int .i64 (n : Int)) hHeld rfl rfl (by kernel_rfl) (by kernel_rfl) (by kernel_rfl) (fun _ _ _ h => h) (Or.inl ⟨by rfl, fun w _ => by go_simp⟩) ?_
    simp only [Act.put, List.setIfInBounds_toArray, List.set_cons_zero, List.set_cons_succ]
    refine takeH 34 146 (.agg #[.int .i64 0, .int .i64 (n : Int)]) hHeld rfl rfl (by kernel_rfl) (by kernel_rfl) (by kernel_rfl) (fun _ _ _ h => h) (Or.inl ⟨by rfl, fun w _ => by go_simp⟩) ?_
    simp only [Act.put, List.setIfInBounds_toArray, List.set_cons_zero, List.set_cons_succ]
    refine wpAnyH_ready (rs := [31]) (by kernel_rfl) (by simp) (AllReadyH.cons rfl (fun K hK => ?_) AllReadyH.nil)
    rw [if_pos (by rfl)]
    go_simp
    refine (rspan_any _ g6 0 n v6 (rps xs 0 n) _ F6.out.1.r4).mono ?_
    rintro r V7 ⟨rfl, hv7⟩
    have F7 := hide (F6.out.below hv7)
    have E7 := hide (E6.out.trans (hv7.mono E6.out.size))
    refine hK.out _ _ (F7.out) (fun hHeld => ?_)
    clear hK K
    clear hv7
    refine takeH 35 147 (.bool true) hHeld rfl rfl (by kernel_rfl) (by kernel_rfl) (by kernel_rfl) (fun _ _ _ h => h) (Or.inl ⟨by rfl, fun w _ => by go_simp⟩) ?_
    simp only [Act.put, List.setIfInBounds_toArray, List.set_cons_zero, List.set_cons_succ]
    refine takeH 36 148 (.bool true) hHeld rfl rfl (by kernel_rfl) (by kernel_rfl) (by kernel_rfl) (fun _ _ _ h => h) (Or.inl ⟨by rfl, fun w _ => by go_simp⟩) ?_
    simp only [Act.put, List.setIfInBounds_toArray, List.set_cons_zero, List.set_cons_succ]
    refine takeH 37 6 (.bool true) hHeld rfl rfl (by kernel_rfl) (by kernel_rfl) (by kernel_rfl) (fun _ _ _ h => h) (Or.inl ⟨by rfl, fun w _ => by go_simp⟩) ?_
    simp only [Act.put, List.setIfInBounds_toArray, List.set_cons_zero, List.set_cons_succ]
    refine wpAnyH_done (by kernel_rfl) ?_ _
    refine NoPanic.normal ?_
    clear hHeld
    go_wp2
    go_ret
    exact ⟨rfl, E7.out⟩

end Go.Proofs.YthgfbcndoedacaaDoor

/-
  From how an argument is read as data to what the walks are told of it: a slice of digests, a span.
-/
namespace Go.Proofs.YthgfbcndoedacaaDoor
open Go.ChangeShapes Go.WideShapes Go.ChangeAt Go.RowKit
set_option linter.unusedVariables false

theorem bytesD : Tryd.prog.bytesOf 34 = 32 := by kernel_rfl
theorem cellsD : Tryd.prog.cellsOf 34 = 32 := by kernel_rfl

set_option maxRecDepth 100000 in
theorem ds_open {H : Type} {enc : TypeId × Value → H} {W : World} {base : Nat} {v : Value} {d : DataW H} {p : List MemPlace}
    (hv : Value.okWide Tryd.prog W .any base 27 v) (h : DataW.Trod enc Tryd.prog W 0 (fun _ => true) true 27 v d p) :
    ∃ a len cap xs, v = .slice a len cap ∧ (cap ≤ 4398046511104 → Ds W a len cap xs) ∧ ((d = .nil ∧ cap = 0) ∨ ∃ es rs, d = .slice es rs ∧ es.length + rs.length = cap) := by
  obtain ⟨a, len, cap, rfl⟩ := okWide_slice undDl hv
  refine ⟨a, len, cap, ?_⟩
  obtain ⟨fuel, hf⟩ := h
  rcases Deep.open_slice undDl hf with ⟨hcs, hx⟩ | ⟨x, l, c, m, n, D, Pl, hcs, _, hl, hm, hmm, hx, hel⟩
  · simp [Value.cells] at hcs
    obtain ⟨rfl, rfl, rfl⟩ := hcs
    simp only [Prod.mk.injEq] at hx
    exact ⟨[], rfl, fun _ => ⟨Nat.le_refl _, by omega, fun _ => rfl, Sl.none0 _⟩, .inl ⟨hx.1, rfl⟩⟩
  · simp [Value.cells] at hcs
    obtain ⟨rfl, rfl, rfl⟩ := hcs
    simp only [Prod.mk.injEq] at hx
    have hmc : m = cap := by simpa using hmm
    subst hmc
    have cell : ∀ j, j < 32 * m → ∃ z : Int, W.cell? (x.add j) = some (.int .u8 z) ∧ 0 ≤ z ∧ z ≤ 255 := by
      intro j hj
      obtain ⟨cs', h1, h2⟩ := hel (j / 32) (by omega)
      rw [cellsD] at h1
      obtain ⟨_, hlen, hcell⟩ := World.cells?_some h1
      obtain ⟨ys, q, _, _, _, hyl, hy⟩ := DataW.trod_array aD.und h2
      rw [aD.cells] at hy
      have e := hy (j % 32) (by omega)
      have hys : ys[j % 32]? = some ys[j % 32] := List.getElem?_eq_getElem (by omega)
      rw [hys, Nat.mul_one, List.drop_eq_getElem_cons (by omega)] at e
      simp only [List.take_succ_cons, List.take_zero] at e
      obtain ⟨z, hz, _, hwf⟩ := DataW.trod_int aD.elem e
      simp only [List.cons.injEq, and_true] at hz
      refine ⟨z, ?_, bounds_u8 hwf⟩
      have hc := hcell (j % 32) (by omega)
      rw [List.getElem?_eq_getElem (by omega), hz] at hc
      have ea : (x.add (j / 32 * 32)).add (j % 32) = x.add j := by
        rw [Deep.add_add, Nat.div_add_mod']
      rwa [ea] at hc
    refine ⟨(List.range (32 * len)).map (fun j => intOf ((W.cell? (x.add j)).getD undef)), rfl, fun hc => ⟨hl, by omega, (fun e => by cases e), by simp, Nat.le_refl _, by omega, by omega, ?_, (fun e => by cases e), fun h0 => ?_⟩, .inr ⟨_, _, hx.1, by simp; omega⟩⟩
    · intro y hy
      simp only [List.mem_map, List.mem_range] at hy
      obtain ⟨j, hj, rfl⟩ := hy
      obtain ⟨z, hz, hb⟩ := cell j (by omega)
      simp only [hz, Option.getD_some, intOf]
      exact hb
    · obtain ⟨b, off, spot⟩ := x
      have hs : spot = none := by
        obtain ⟨z, hz, _⟩ := cell 0 (by omega)
        simpa [Addr.add] using World.cell?_spot hz
      subst hs
      refine ⟨b, off, rfl, fun i hi => ?_⟩
      obtain ⟨z, hz, _⟩ := cell i (by omega)
      rw [Addr.add_lit] at hz
      rw [hz]
      simp [List.getD, hi, Addr.add_lit, hz, intOf]

set_option maxRecDepth 100000 in
theorem ds_of {H : Type} {enc : TypeId × Value → H} {W : World} {base : Nat} {v : Value} {d : DataW H} {p : List MemPlace} {ts : List TypeId} {ds : List (DataW H)} (j : Nat)
    (hv : Value.okWide Tryd.prog W .any base 27 v) (h : DataW.Trod enc Tryd.prog W 0 (fun _ => true) true 27 v d p)
    (hsz : (DataW.weightsEach Tryd.prog ts ds).all (· ≤ reachBytes) = true) (ht : ts[j]? = some 27) (hd : ds[j]? = some d) :
    ∃ a len cap xs, v = .slice a len cap ∧ Ds W a len cap xs ∧ cap ≤ 4398046510976 := by
  obtain ⟨a, len, cap, xs, rfl, hs, hd2⟩ := ds_open hv h
  have hc : cap ≤ 4398046510976 := by
    rcases hd2 with ⟨_, rfl⟩ | ⟨es, rs, rfl, hl⟩
    · omega
    · have := sized_slice hsz ht hd undDl
      rw [bytesD, hl] at this
      simp only [reachBytes] at this
      omega
  exact ⟨a, len, cap, xs, rfl, hs (by omega), hc⟩

set_option maxRecDepth 100000 in
/-- A struct of two numbers that came in. -/
theorem two_open {T : TypeId} {f0 f1 : Field} (hu : Tryd.prog.underlying T = some (.struct #[f0, f1])) (hc : Tryd.prog.cellsOf T = 2) (o0 : f0.offset = 0) (o1 : f1.offset = 1) (t0 : f0.type = 3) (t1 : f1.type = 3)
    {H : Type} {enc : TypeId × Value → H} {W : World} {base : Nat} {v : Value} {d : DataW H} {p : List MemPlace}
    (hv : Value.okWide Tryd.prog W .any base T v) (h : DataW.Trod enc Tryd.prog W 0 (fun _ => true) true T v d p) :
    ∃ n m : Int, v = .agg #[.int .i64 n, .int .i64 m] ∧ (Lit.int .i64 n).wf = true ∧ (Lit.int .i64 m).wf = true := by
  obtain ⟨cs, rfl, hsz⟩ := okWide_struct hu hv
  rw [hc] at hsz
  obtain ⟨fuel, hf⟩ := h
  obtain ⟨y0, y1, q, _, _, h0, h1⟩ := trod_struct2 hu hf
  have c1 : Tryd.prog.cellsOf 3 = 1 := by kernel_rfl
  have hi : Tryd.prog.underlying 3 = some (.int .i64) := by kernel_rfl
  rw [o0, t0, c1] at h0
  rw [o1, t1, c1] at h1
  obtain ⟨n, e0, _, w0⟩ := DataW.trod_int hi h0
  obtain ⟨m, e1, _, w1⟩ := DataW.trod_int hi h1
  refine ⟨n, m, ?_, w0, w1⟩
  obtain ⟨l⟩ := cs
  simp only [Value.cells] at e0 e1
  match l, hsz with
  | [x, y], _ =>
    simp at e0 e1
    rw [e0, e1]


end Go.Proofs.YthgfbcndoedacaaDoor

/-
  The three tables, as the program lays them.
-/
namespace Go.Proofs.YthgfbcndoedacaaDoor
open Go.ChangeShapes Go.WideShapes Go.ChangeAt Go.RowKit
set_option linter.unusedVariables false

def dL : List Int := Lib.deBruijn64tab.map fun n : Nat => (n : Int)
def dL32 : List Int := Lib.deBruijn32tab.map fun n : Nat => (n : Int)
theorem gTz : Tryd.prog.globalNamed "math/bits.deBruijn64tab" = some 1 := by kernel_rfl
theorem gTzT : (Tryd.prog.globals[1]?).map (·.type) = some 124 := by kernel_rfl
theorem undTz : Tryd.prog.underlying 124 = some (.array 64 5) := by kernel_rfl
theorem undTz8 : Tryd.prog.underlying 5 = some (.int .u8) := by kernel_rfl
theorem cellsTz8 : Tryd.prog.cellsOf 5 = 1 := by kernel_rfl
theorem cellsTz : Tryd.prog.cellsOf 124 = 64 := by kernel_rfl
theorem kt3_of {W : World} (h : laidMetH Tryd.prog [("math/bits.deBruijn32tab", Rows.laid_math_bits_deBruijn32tab), ("math/bits.deBruijn64tab", Rows.laid_math_bits_deBruijn64tab), ("coppice/hash.constants", Rows.laid_coppice_hash_constants)] W) : KT W ∧ TT W := by
  have h0 : laidMet Tryd.prog [("math/bits.deBruijn32tab", Rows.laid_math_bits_deBruijn32tab), ("math/bits.deBruijn64tab", Rows.laid_math_bits_deBruijn64tab), ("coppice/hash.constants", Rows.laid_coppice_hash_constants)] W := h
  have h1 := laidMet.tail h0
  have h2 := laidMet.tail h1
  have t1 : Lib.TabIs Tryd.prog W "coppice/hash.constants" .u32 kL := Lib.tabIs_of_head (rest := []) gTab gTabT undK undW cellsW cellsK h2
  have t2 : Lib.TabIs Tryd.prog W "math/bits.deBruijn64tab" .u8 dL := Lib.tabIs_of_head (rest := [("coppice/hash.constants", Rows.laid_coppice_hash_constants)]) gTz gTzT undTz undTz8 cellsTz8 cellsTz h1
  refine ⟨fun i hi => ?_, fun i hi => ?_⟩
  · rw [t1.cell gTab i (show i < kL.length from hi)]
  · rw [t2.cell gTz i (show i < dL.length from hi)]
    have : dL.getD i 0 = (Lib.deBruijn64tab.getD i 0 : Int) := by
      have hl : i < Lib.deBruijn64tab.length := hi
      simp [dL, List.getD, hl]
    rw [this]
/-- A world with the tables laid in it, for the witness. -/
def laidOf3 (W : World) : World :=
  { W with heap := ((W.heap.modify 2 fun
      | .cells _ t frozen => .cells (kL.map (Value.int .u32)).toArray t frozen
      | o => o).modify 1 fun
      | .cells _ t frozen => .cells (dL.map (Value.int .u8)).toArray t frozen
      | o => o).modify 0 fun
      | .cells _ t frozen => .cells (dL32.map (Value.int .u8)).toArray t frozen
      | o => o }

end Go.Proofs.YthgfbcndoedacaaDoor
