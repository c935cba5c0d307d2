/-
  The program's and the document's digests of a leaf, of two, of nothing.
-/
import Derived.Test.YtconeobaohmbnaaDoorSm
import Derived.Test.YtconeobaohmbnaaDoorSu
import Derived.Test.YtconeobaohmbnaaDoorAp
import Derived.Test.YtconeobaohmbnaaDoorSc
import Derived.Test.YtconeobaohmbnaaDoorTr
namespace Go.Proofs.YtconeobaohmbnaaDoor
open Go.RowKit
set_option linter.unusedVariables false

theorem Sl.none0 (w : World) : Sl w none 0 0 [] := ⟨rfl, Nat.le_refl _, by omega, by omega, by intro x hx; simp at hx, fun _ => ⟨rfl, rfl⟩, fun h => absurd h (by omega)⟩
theorem own_one (w : World) (x : Int) : Own (w.alloc (.cells #[.int .u8 x] 5)) w.heap.size (.slice (some ⟨w.heap.size, 0, none⟩) 1 1) [x] :=
  Own.of_blk (xs := [x]) (Blk.made w 5 (u8s [x])) (Nat.le_refl _) (by simp)
theorem slice_Dh (g : Nat) (v : World) : (Instr.sliceAt 23 (.pointer (some ⟨g, 0, none⟩)) none none none).run Tryd.prog v = .ok (.slice (some ⟨g, 0, none⟩) 32 32) v := by kernel_rfl

set_option maxHeartbeats 1000000 in
theorem leaf_any (a : Option Addr) (len cap : Nat) (xs : List Int) (w : World) (hs : Sl w a len cap xs) (hl : len ≤ 140737488354304) (hk : KT w) :
    Calls Tryd.prog 15 #[.slice a len cap] w fun e w' => e = .returned (.agg (u8s (lf xs)).toArray) ∧ Below w.heap.size w w' := by
  have HK := hide hk
  clear hk
  have HS := hide hs
  have HX := hide hs.hlen
  have HXB := hide hs.hbyte
  have HML := hide (show (u8s (lf xs)).length = 32 by rw [u8s_length, lf_length])
  clear hs
  go_enter Tryd.func15, Tryd.ntmps15
  go_wp2_with (refine step_alloc zD rfl ?_)
  intro w1 g1 hg1 hle1 hb1
  have S1 := hide (HS.out.below hb1)
  have G1 := hide hg1
  have HB1 := hide hb1
  have ho0 := own_one w1 0
  have hb0 : Below w1.heap.size w1 (w1.alloc (.cells #[.int .u8 0] 5)) := (Below.refl _ _).alloc (Nat.le_refl _) _
  clear hg1 hb1
  go_wp2_with (refine step_append rfl rfl rfl ho0 (S1.out.below hb0) (by simp; omega) (by simp) ?_)
  intro v2 w2 ho2 hg2 hn2
  have hv2 : v2 ≠ .slice none 0 0 := fun e => by have e2 := (hn2 e).1; cases e2
  have B2 := hide (hb0.trans (Below.of_grown hg2 (by simp) ho0.lt))
  have HLY := hide (show ([0] ++ xs).length = len + 1 by simp [HX.out])
  obtain ⟨gi, ci, ei, _, hsi⟩ := ho2.sl ((show isB [0] by intro y hy; simp at hy; omega).append HXB.out) (by rw [HLY.out]; omega) hv2
  subst ei
  rw [HLY.out] at hsi ⊢
  have SI := hide hsi
  clear ho0 hb0 ho2 hg2 hn2 hv2 hsi
  go_wp2_with fail
  refine (sum_any _ _ _ ([0] ++ xs) _ SI.out ((HK.out.below HB1.out HK.out.lt).below B2.out (HK.out.below HB1.out HK.out.lt).lt)).mono ?_
  rintro e w3 ⟨rfl, hb3⟩
  have EL : Hid (dg bL 0 ([0] ++ xs) = lf xs) := hide rfl
  rw [EL.out]
  have B3 := hide (B2.out.trans (hb3.mono B2.out.size))
  have G3 := hide (G1.out.below B3.out G1.out.lt)
  go_wp2_with (refine step_storeA wD rfl rfl rfl G3.out HML.out (One.u8 _) rfl ?_; intro w4 hg4 hbut4)
  refine bodyPost_ret (results_wide rfl wD _ _ rfl hg4 HML.out) rfl ⟨rfl, ?_⟩
  exact (HB1.out.trans (B3.out.mono HB1.out.size)).trans (hbut4.below hle1)

set_option maxHeartbeats 1000000 in
theorem leafR_any (a : Option Addr) (len cap : Nat) (xs : List Int) (w : World) (hs : Sl w a len cap xs) (hl : len ≤ 140737488354304) :
    Calls Tryd.prog 28 #[.slice a len cap] w fun e w' => e = .returned (.agg (u8s (lf xs)).toArray) ∧ Below w.heap.size w w' := by
  have HS := hide hs
  have HX := hide hs.hlen
  have HXB := hide hs.hbyte
  have HML := hide (show (u8s (lf xs)).length = 32 by rw [u8s_length, lf_length])
  clear hs
  go_enter Tryd.func28, Tryd.ntmps28
  go_wp2_with (refine step_alloc zD rfl ?_)
  intro w1 g1 hg1 hle1 hb1
  have S1 := hide (HS.out.below hb1)
  have G1 := hide hg1
  have HB1 := hide hb1
  have ho0 := own_one w1 0
  have hb0 : Below w1.heap.size w1 (w1.alloc (.cells #[.int .u8 0] 5)) := (Below.refl _ _).alloc (Nat.le_refl _) _
  clear hg1 hb1
  go_wp2_with (refine step_append rfl rfl rfl ho0 (S1.out.below hb0) (by simp; omega) (by simp) ?_)
  intro v2 w2 ho2 hg2 hn2
  have hv2 : v2 ≠ .slice none 0 0 := fun e => by have e2 := (hn2 e).1; cases e2
  have B2 := hide (hb0.trans (Below.of_grown hg2 (by simp) ho0.lt))
  have HLY := hide (show ([0] ++ xs).length = len + 1 by simp [HX.out])
  obtain ⟨gi, ci, ei, _, hsi⟩ := ho2.sl ((show isB [0] by intro y hy; simp at hy; omega).append HXB.out) (by rw [HLY.out]; omega) hv2
  subst ei
  rw [HLY.out] at hsi ⊢
  have SI := hide hsi
  clear ho0 hb0 ho2 hg2 hn2 hv2 hsi
  go_wp2_with fail
  refine (sumR_any _ _ _ ([0] ++ xs) _ SI.out (by omega)).mono ?_
  rintro e w3 ⟨rfl, hb3⟩
  have EL : Hid (dg bL 0 ([0] ++ xs) = lf xs) := hide rfl
  rw [EL.out]
  have B3 := hide (B2.out.trans (hb3.mono B2.out.size))
  have G3 := hide (G1.out.below B3.out G1.out.lt)
  go_wp2_with (refine step_storeA wD rfl rfl rfl G3.out HML.out (One.u8 _) rfl ?_; intro w4 hg4 hbut4)
  refine bodyPost_ret (results_wide rfl wD _ _ rfl hg4 HML.out) rfl ⟨rfl, ?_⟩
  exact (HB1.out.trans (B3.out.mono HB1.out.size)).trans (hbut4.below hle1)

set_option maxHeartbeats 1000000 in
theorem empty_any (w : World) (hk : KT w) :
    Calls Tryd.prog 36 #[] w fun e w' => e = .returned (.agg (u8s emp).toArray) ∧ Below w.heap.size w w' := by
  have HK := hide hk
  clear hk
  have HML := hide (show (u8s emp).length = 32 by rw [u8s_length, emp_length])
  go_enter Tryd.func36, Tryd.ntmps36
  go_wp2_with (refine step_alloc zD rfl ?_)
  intro w1 g1 hg1 hle1 hb1
  have G1 := hide hg1
  have HB1 := hide hb1
  clear hg1 hb1
  go_wp2_with fail
  refine (sum_any none 0 0 [] _ (Sl.none0 _) (HK.out.below HB1.out HK.out.lt)).mono ?_
  rintro e w3 ⟨rfl, hb3⟩
  have EL : Hid (dg bL 0 [] = emp) := hide rfl
  rw [EL.out]
  have G3 := hide (G1.out.below hb3 G1.out.lt)
  go_wp2_with (refine step_storeA wD rfl rfl rfl G3.out HML.out (One.u8 _) rfl ?_; intro w4 hg4 hbut4)
  refine bodyPost_ret (results_wide rfl wD _ _ rfl hg4 HML.out) rfl ⟨rfl, ?_⟩
  exact (HB1.out.trans (hb3.mono HB1.out.size)).trans (hbut4.below hle1)

end Go.Proofs.YtconeobaohmbnaaDoor
