/-
  The walk of MacExpands.
-/
import Derived.Test.YtefaabmkcgdkiaaDoorEr
import Derived.Test.YtefaabmkcgdkiaaDoorSp3
import Derived.Test.YtefaabmkcgdkiaaDoorCg
namespace Go.Proofs.YtefaabmkcgdkiaaDoor
open Go.RowKit
set_option linter.unusedVariables false

theorem sl_nil (w : World) : Sl w none 0 0 [] := ⟨rfl, Nat.le_refl _, by omega, by omega, (fun x hx => by simp at hx), fun _ => ⟨rfl, rfl⟩, fun h => absurd h (by omega)⟩

set_option maxHeartbeats 4000000 in
theorem expands_walk (ds : List Int) (a : Option Addr) (len cap : Nat) (xs : List Int) (n : Int) (w : World) (hd : ds.length = 32) (hdw : ∀ x ∈ ds, (Lit.int .u8 x).wf = true) (hs : Sl w a len cap xs) (hl : cap ≤ 140737488351232) (hn : (Lit.int .i64 n).wf = true) (hk : KT w) :
    Calls Tryd.prog 7 #[.agg (u8s ds).toArray, .slice a len cap, .int .i64 n] w fun e w' => e = .returned (.bool true) ∧ Below w.heap.size w w' := by
  have HS := hide hs
  have HK := hide hk
  have HD := hide hd
  have HDB := hide (show isB ds from fun x hx => bounds_u8 (hdw x hx))
  have HDL := hide (show (u8s ds).length = 32 by rw [u8s_length, HD.out])
  have hcap := hs.hcap
  clear hs hk hd hdw hn
  go_enter Tryd.func7, Tryd.ntmps7
  go_wp2_with (refine step_box rfl rfl ?_)
  intro w1 g3 hg1 hle1 hb1
  have G1 := hide hg1
  have HB1 := hide hb1
  have K1 := hide (HK.out.below hb1 HK.out.lt)
  have S1 := hide (HS.out.below hb1)
  clear hg1 hb1 hle1
  by_cases hbad : n < 0 ∨ 8160 < n
  · obtain ⟨e, he⟩ : ∃ e, (n < 0 ∧ e = 2) ∨ (8160 < n ∧ e = (3 : Int)) := by
      rcases hbad with h | h
      · exact ⟨2, .inl ⟨h, rfl⟩⟩
      · exact ⟨3, .inr ⟨h, rfl⟩⟩
    have HE := hide he
    clear he hbad
    go_wp2_with (refine step_loadA wD rfl rfl G1.out HDL.out ?_)
    refine (expand_bad ds _ _ _ n e _ HE.out).mono ?_
    rintro r w2 ⟨rfl, hb2⟩
    have G2 := hide (G1.out.below hb2 G1.out.lt)
    have HB2 := hide (HB1.out.trans (hb2.mono HB1.out.size))
    clear hb2
    go_wp2_with (refine step_loadA wD rfl rfl G2.out HDL.out ?_)
    refine (expand_bad ds _ _ _ n e _ HE.out).mono ?_
    rintro r w3 ⟨rfl, hb3⟩
    have G3 := hide (G2.out.below hb3 G2.out.lt)
    have HB3 := hide (HB2.out.trans (hb3.mono HB2.out.size))
    clear hb3
    go_wp2_with (refine step_loadA wD rfl rfl G3.out HDL.out ?_)
    refine (expandR_bad ds _ _ _ n e _ HE.out).mono ?_
    rintro r w4 ⟨rfl, hb4⟩
    have HB4 := hide (HB3.out.trans (hb4.mono HB3.out.size))
    clear hb4
    go_wp2_with (first | (refine step_toStr rfl rfl (sl_nil _) ?_) | (go_at_call 24; refine (spoil3_nil _).mono ?_; rintro e w' ⟨rfl, rfl⟩) | (go_at_call 29; refine (names3_any _).mono ?_; rintro e w' ⟨rfl, rfl⟩))
    go_ret
    exact ⟨rfl, HB4.out⟩
  · obtain ⟨N, rfl⟩ : ∃ N : Nat, n = (N : Int) := ⟨n.toNat, by omega⟩
    have hN : N ≤ 8160 := by omega
    clear hbad
    go_wp2_with (refine step_loadA wD rfl rfl G1.out HDL.out ?_)
    refine (expand_any ds _ _ _ xs N _ HD.out HDB.out S1.out hN K1.out).mono ?_
    rintro r w2 ⟨gx, rfl, hlx, hgx, hb2⟩
    have G2 := hide (G1.out.below hb2 G1.out.lt)
    have GX2 := hide hgx
    have HB2 := hide (HB1.out.trans (hb2.mono HB1.out.size))
    have S2 := hide (HS.out.below HB2.out)
    have K2 := hide (HK.out.below HB2.out HK.out.lt)
    clear hb2 hgx S1 K1 G1
    go_wp2_with (refine step_loadA wD rfl rfl G2.out HDL.out ?_)
    refine (expand_any ds _ _ _ xs N _ HD.out HDB.out S2.out hN K2.out).mono ?_
    rintro r w3 ⟨gy, rfl, hly, hgy, hb3⟩
    have hxy : gy ≠ gx := by have := GX2.out.lt; omega
    have G3 := hide (G2.out.below hb3 G2.out.lt)
    have GX3 := hide (GX2.out.below hb3 GX2.out.lt)
    have GY3 := hide hgy
    have HB3 := hide (HB2.out.trans (hb3.mono HB2.out.size))
    have S3 := hide (HS.out.below HB3.out)
    clear hb3 hgy S2 K2 G2 GX2
    go_wp2_with (refine step_loadA wD rfl rfl G3.out HDL.out ?_)
    refine (expandR_any ds _ _ _ xs N _ HD.out HDB.out S3.out (by omega) hN).mono ?_
    rintro r w4 ⟨aw, cw, rfl, hsw, hfw, hb4⟩
    have GX4 := hide (GX3.out.below hb4 GX3.out.lt)
    have GY4 := hide (GY3.out.below hb4 GY3.out.lt)
    have HB4 := hide (HB3.out.trans (hb4.mono HB3.out.size))
    have SW4 := hide hsw
    have AW : Hid (0 < N → Apart gx aw) := hide (fun _ x hx => by have := hfw x hx; have := GX3.out.lt; omega)
    have LA := hide (show ((exl ds xs ((N + 31) / 32)).take N).length = N by rw [List.length_take, exl_length]; omega)
    have LB := hide (show isB ((exl ds xs ((N + 31) / 32)).take N) from (exl_isB _ _ _).take _)
    have hlx' : w.heap.size ≤ gx := Nat.le_trans HB1.out.size hlx
    clear hb4 hsw hfw S3 G3 GX3 GY3
    revert GX4 GY4 SW4 LA LB
    generalize (exl ds xs ((N + 31) / 32)).take N = A
    intro GX4 GY4 SW4 LA LB
    have SX4 := hide (GX4.out.sl0 LB.out (by rw [LA.out]; omega))
    have SY4 := hide (GY4.out.sl0 LB.out (by rw [LA.out]; omega))
    rw [LA.out] at SX4 SY4
    go_wp2_with (first | (refine step_toStr rfl rfl SX4.out ?_) | (refine step_toStr rfl rfl SW4.out ?_))
    refine (spoil3_blk gx N N _ A _ GX4.out LA.out (by omega)).mono ?_
    rintro r w5 ⟨rfl, hbut⟩
    have SY5 := hide (SY4.out.but hbut (fun _ x hx => by cases hx; exact hxy))
    have SW5 := hide (SW4.out.but hbut AW.out)
    go_wp2_with (first | (refine step_toStr rfl rfl SY5.out ?_) | (refine step_toStr rfl rfl SW5.out ?_) | (go_at_call 29; refine (names3_any _).mono ?_; rintro e w' ⟨rfl, rfl⟩))
    go_ret
    exact ⟨rfl, HB4.out.trans (hbut.below hlx')⟩

end Go.Proofs.YtefaabmkcgdkiaaDoor
