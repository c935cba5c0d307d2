/-
  The walk of TreeRoots.
-/
import Derived.Test.YtmgabnlobeienaaDoorDa
namespace Go.Proofs.YtmgabnlobeienaaDoor
open Go.RowKit
set_option linter.unusedVariables false

set_option maxRecDepth 100000 in
set_option maxHeartbeats 4000000 in
theorem roots_walk (a : Option Addr) (n cap : Nat) (xs : List Int) (b e : Int) (w : World) (hs : Ds w a n cap xs) (hc : cap ≤ 4398046510976) (hb : (Lit.int .i64 b).wf = true) (he : (Lit.int .i64 e).wf = true) (hk : KT w) :
    Calls Tryd.prog 4 #[.slice a n cap, .agg #[.int .i64 b, .int .i64 e]] w fun e w' => e = .returned (.bool true) ∧ Below w.heap.size w w' := by
  have HK := hide hk
  have HS := hide hs
  have hcap := hs.hcap
  have HXB := hide hs.hbyte
  have HDL := hide (show (u8s (sbD xs n b e)).length = 32 by rw [u8s_length, sbD_length b e hs.hlen hs.hbyte])
  have HDM := hide (sbD_length b e hs.hlen hs.hbyte)
  have HRL := hide (root_length hs.hlen hs.hbyte)
  obtain ⟨se, HSE⟩ : ∃ se, Hid (sbE n b e = se) := ⟨_, hide rfl⟩
  clear hs hk hb he
  go_enter Tryd.func4, Tryd.ntmps4
  go_wp2_with (refine step_box (cs := [.int .i64 b, .int .i64 e]) rfl rfl ?_)
  intro w1 g3 hr1 hl1 hb1
  have G3 := hide hr1
  have HB1 := hide hb1
  have S1 := hide (HS.out.below hb1)
  clear hr1 hb1
  have ho0 := down_empty w1
  have hb0 : Below w1.heap.size w1 (w1.alloc (.cells #[] 24)) := (Below.refl _ _).alloc (Nat.le_refl _) _
  go_wp2_with (refine step_appendD rfl rfl rfl ho0 (S1.out.below hb0) (by omega) (by simp) ?_)
  intro v2 w2 ho2 hg2
  rw [List.nil_append, Nat.zero_add] at ho2
  have B2 := hide (hb0.trans (Below.of_grown hg2 (by simp) ho0.lt))
  obtain ⟨a2, c2, rfl, hs2, _⟩ := ho2.ds HXB.out (by omega)
  have SI := hide hs2
  have HB2 := hide (HB1.out.trans (B2.out.mono HB1.out.size))
  have G32 := hide (G3.out.below B2.out G3.out.lt)
  have S2 := hide (HS.out.below HB2.out)
  have K2 := hide (HK.out.below HB2.out HK.out.lt)
  clear ho0 hb0 ho2 hg2 hs2 S1 G3 HB1 B2
  go_wp2_with (refine step_loadA wSp rfl rfl G32.out rfl ?_)
  go_wp2_with fail
  refine (sub_any _ _ _ b e xs _ SI.out K2.out).mono ?_
  rintro r w3 ⟨rfl, hb3⟩
  rw [HSE.out]
  go_wp2_with (refine step_alloc zD rfl ?_)
  intro w4 g6 hr4 hl4 hb4
  have G6 := hide hr4
  clear hr4
  go_wp2_with (refine step_storeA wD rfl rfl rfl G6.out HDL.out (One.u8 _) rfl ?_)
  intro w5 hg5 hbut5
  have B5 := hide (hb3.trans ((hb4.trans (hbut5.below hl4)).mono hb3.size))
  have G65 := hide hg5
  have G35 := hide (G32.out.below B5.out G32.out.lt)
  have SI5 := hide (SI.out.below B5.out)
  have HB5 := hide (HB2.out.trans (B5.out.mono HB2.out.size))
  have S5 := hide (HS.out.below HB5.out)
  clear hb3 hb4 hbut5 hg5 G6 G32 SI S2 K2 HB2 B5 hl4
  go_wp2_with (refine step_loadA wSp rfl rfl G35.out rfl ?_)
  go_wp2_with fail
  refine (subR_any _ _ _ b e xs _ S5.out).mono ?_
  rintro r w6 ⟨rfl, hb6⟩
  rw [HSE.out]
  go_wp2_with (refine step_alloc zD rfl ?_)
  intro w7 g8 hr7 hl7 hb7
  have G8 := hide hr7
  clear hr7
  go_wp2_with (refine step_storeA wD rfl rfl rfl G8.out HDL.out (One.u8 _) rfl ?_)
  intro w8 hg8 hbut8
  have B8 := hide (hb6.trans ((hb7.trans (hbut8.below hl7)).mono hb6.size))
  have G88 := hide hg8
  have G68 := hide (G65.out.below B8.out G65.out.lt)
  have SI8 := hide (SI5.out.below B8.out)
  have HB8 := hide (HB5.out.trans (B8.out.mono HB5.out.size))
  have S8 := hide (HS.out.below HB8.out)
  have K8 := hide (HK.out.below HB8.out HK.out.lt)
  clear hb6 hb7 hbut8 hg8 G8 G35 G65 SI5 S5 HB5 B8 hl7
  go_wp2_with fail
  refine (root_any n _ _ _ xs _ (Nat.le_refl _) SI8.out K8.out).mono ?_
  rintro r w9 ⟨rfl, hb9⟩
  go_wp2_with fail
  refine (rootR_any n _ _ _ xs _ (Nat.le_refl _) (S8.out.below hb9)).mono ?_
  rintro r wx ⟨rfl, hbx⟩
  have Bx := hide (hb9.trans (hbx.mono hb9.size))
  have G8x := hide (G88.out.below Bx.out G88.out.lt)
  have G6x := hide (G68.out.below Bx.out G68.out.lt)
  have SIx := hide (SI8.out.below Bx.out)
  have Sx := hide (S8.out.below Bx.out)
  have HBx := hide (HB8.out.trans (Bx.out.mono HB8.out.size))
  clear hb9 hbx G88 G68 SI8 S8 K8 HB8 Bx
  go_wp2_with (first | (refine step_eqA aD rfl rfl rfl HRL.out HRL.out ?_) | (refine step_eqA aD rfl rfl rfl HDM.out HDM.out ?_) | (refine step_loadA wD rfl rfl G6x.out HDL.out ?_) | (refine step_loadA wD rfl rfl G8x.out HDL.out ?_) | (go_at_call 21; refine (same_any _ _ _ _ _ xs _ SIx.out Sx.out).mono ?_; rintro r wy ⟨rfl, hby⟩) | (go_at_call 16; refine (names4_any _).mono ?_; rintro r wz ⟨rfl, rfl⟩))
  go_ret
  exact ⟨rfl, HBx.out.trans (hby.mono HBx.out.size)⟩

end Go.Proofs.YtmgabnlobeienaaDoor
