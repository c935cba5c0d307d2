/-
  The walk of HashSums.
-/
import Derived.Test.YtbankdepjpeniaaDoorSu
namespace Go.Proofs.YtbankdepjpeniaaDoor
open Go.RowKit
set_option linter.unusedVariables false

theorem str_90 (xs : List Int) : str xs ++ { data := #[90] } = str (xs ++ [90]) := (str_append xs [90])

set_option maxRecDepth 100000 in
set_option maxHeartbeats 2000000 in
theorem sums_walk (a : Option Addr) (len cap : Nat) (xs : List Int) (w : World) (hs : Sl w a len cap xs) (hl : cap ≤ 140737488351232) (hk : KT w) :
    Calls Tryd.prog 3 #[.slice a len cap] w fun e w' => e = .returned (.bool true) ∧ Below w.heap.size w w' := by
  have HS := hide hs
  have HK := hide hk
  have hcap := hs.hcap
  have HX := hide hs.hlen
  have HXB := hide hs.hbyte
  have HD := hide (dg_length bL 0 xs rfl)
  clear hs hk
  go_enter Tryd.func3, Tryd.ntmps3
  have ho0 : Own (w.alloc (.cells #[] 5)) w.heap.size (.slice (some ⟨w.heap.size, 0, none⟩) 0 0) [] := Own.of_blk (xs := []) (Blk.made w 5 []) (Nat.le_refl _) (by simp)
  have hb0 : Below w.heap.size w (w.alloc (.cells #[] 5)) := (Below.refl _ _).alloc (Nat.le_refl _) _
  go_wp2_with (refine step_append rfl rfl rfl ho0 (HS.out.below hb0) (by simp; omega) (by simp) ?_)
  intro v1 w1 ho1 hg1 hn1
  have hb1 : Below w.heap.size w w1 := hb0.trans (Below.of_grown hg1 hb0.size ho0.lt)
  have hv1n : v1 ≠ .slice none 0 0 := fun e => by have e2 := (hn1 e).1; cases e2
  clear hg1 hn1 ho0 hb0
  have hr2 : Sl (w1.alloc (.cells #[.int .u8 90] 5)) (some ⟨w1.heap.size, 0, none⟩) 1 1 [90] := (Blk.made w1 5 (u8s [90])).sl0 (by simp [isB]) (by simp)
  have HO1 := hide ho1
  clear ho1
  go_wp2_with (refine step_append rfl rfl rfl (HO1.out.alloc _) hr2 (by simp [HX.out]; omega) (by have := hb1.size; simp; omega) ?_)
  intro v2 w2 ho2 hg2 hn2
  have hb2 : Below w.heap.size w w2 := (hb1.alloc hb1.size _).trans (Below.of_grown hg2 (by have := hb1.size; simp; omega) HO1.out.lt)
  have hv2n : v2 ≠ .slice none 0 0 := fun e => hv1n (hn2 e).1
  clear hg2 hn2 HO1 hr2
  rw [List.nil_append] at ho2
  obtain ⟨g, cap2, rfl, hgB, hin⟩ := ho2.sl (HXB.out.append (by simp [isB])) (by simp [HX.out]; omega) hv2n
  have hlx : (xs ++ [90]).length = len + 1 := by simp [HX.out]
  rw [hlx] at hin ⊢
  have hc2 := hin.hcap
  have hc3 := hin.hmax
  have HIN := hide hin
  have hpre := hin.take len (by omega)
  rw [List.take_append_of_le_length (by rw [HX.out]; exact Nat.le_refl _), List.take_of_length_le (by rw [HX.out]; exact Nat.le_refl _)] at hpre
  have HPRE := hide hpre
  have S2 := hide (HS.out.below hb2)
  have K2 := hide (HK.out.below hb2 HK.out.lt)
  have HB2 := hide hb2
  have hss : (str xs).size ≤ 140737488351232 := by rw [str_size, HX.out]; omega
  have hse := str_90 xs
  clear hin hpre ho2 hv1n hv2n hb1 hb2 hgB hlx
  go_wp2_with (first | (go_at_call 8; refine (sum_any _ _ _ xs _ HPRE.out K2.out).mono ?_; rintro e w3 ⟨rfl, hb3⟩; have S3 := hide (S2.out.below hb3)) | (go_at_call 9; refine (sumR_any _ _ _ xs _ S3.out (by omega)).mono ?_; rintro e w4 ⟨rfl, hb4⟩; have S4 := hide (S3.out.below hb4); have I4 := hide ((HIN.out.below hb3).below hb4)) | (refine step_eqA aD rfl rfl rfl HD.out HD.out ?_) | (refine step_toStr rfl rfl I4.out ?_) | (refine step_toStr rfl rfl S4.out ?_))
  go_ret
  exact ⟨rfl, HB2.out.trans ((hb3.mono HB2.out.size).trans (hb4.mono (Nat.le_trans HB2.out.size hb3.size)))⟩

end Go.Proofs.YtbankdepjpeniaaDoor
