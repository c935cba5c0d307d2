/-
  The walk of FrameSums.
-/
import Derived.Test.YtbkhlbaamjccjaaDoorFcr
namespace Go.Proofs.YtbkhlbaamjccjaaDoor
open Go.RowKit
set_option linter.unusedVariables false
set_option linter.unusedSimpArgs false

theorem str_5aW (xs : List Int) : str xs ++ { data := #[90] } = str (xs ++ [90]) := (str_append xs [90])
theorem one_slW (w : World) (x : Int) (hx : 0 ≤ x ∧ x ≤ 255) : Sl (w.alloc (.cells #[.int .u8 x] 5)) (some ⟨w.heap.size, 0, none⟩) 1 1 [x] :=
  (Blk.made w 5 (u8s [x])).sl0 (by intro y hy; simp at hy; omega) (by simp)
set_option maxRecDepth 100000 in
set_option maxHeartbeats 1000000 in
theorem sums_walk (s : Nat) (a : Option Addr) (len cap : Nat) (xs : List Int) (w : World) (hsn : s < 4294967296) (hs : Sl w a len cap xs) (hl : cap ≤ 140737488351232) (hk : KT w) :
    Calls Tryd.prog 3 #[.int .u32 (s : Int), .slice a len cap] w fun e w' => e = .returned (.bool true) ∧ Below w.heap.size w w' := by
  have HS := hide hs
  have hcap := hs.hcap
  have HX := hide hs.hlen
  have HXB := hide hs.hbyte
  have HK := hide hk
  clear hs hk
  go_enter Tryd.func3, Tryd.ntmps3
  have ho0 : Own (w.alloc (.cells #[] 5)) w.heap.size (.slice (some ⟨w.heap.size, 0, none⟩) 0 0) [] := Own.of_blk (xs := []) (Blk.made w 5 []) (Nat.le_refl _) (by simp)
  have hb0 : Below w.heap.size w (w.alloc (.cells #[] 5)) := (Below.refl _ _).alloc (Nat.le_refl _) _
  go_wp2_with (refine step_append rfl rfl rfl ho0 (HS.out.below hb0) (by simp; omega) (by simp) ?_)
  intro v1 w1 ho1 hg1 hn1
  have hb1 : Below w.heap.size w w1 := hb0.trans (Below.of_grown hg1 hb0.size ho0.lt)
  have hv1n : v1 ≠ .slice none 0 0 := fun e => by have e2 := (hn1 e).1; cases e2
  clear hg1 hn1 ho0 hb0
  have HO1 := hide ho1
  clear ho1
  go_wp2_with (refine step_append rfl rfl rfl (HO1.out.alloc _) (one_slW _ 90 (by omega)) (by simp [HX.out]; omega) (by have := hb1.size; simp; omega) ?_)
  intro v2 w2 ho2 hg2 hn2
  have HB2 := hide ((hb1.alloc hb1.size _).trans (Below.of_grown hg2 (by have := hb1.size; simp; omega) HO1.out.lt))
  have hv2n : v2 ≠ .slice none 0 0 := fun e => hv1n (hn2 e).1
  clear hg2 hn2 HO1
  rw [List.nil_append] at ho2
  obtain ⟨gk, ck, rfl, hgk0, hin⟩ := ho2.sl (HXB.out.append (by simp [isB])) (by simp [HX.out]; omega) hv2n
  have hlx : (xs ++ [90]).length = len + 1 := by simp [HX.out]
  rw [hlx] at hin ⊢
  clear hlx
  have hkc := hin.hcap
  have hkm := hin.hmax
  have IK := hide hin
  have hpre := hin.take len (by omega)
  rw [List.take_append_of_le_length (by rw [HX.out]; exact Nat.le_refl _), List.take_of_length_le (by rw [HX.out]; exact Nat.le_refl _)] at hpre
  have PK := hide hpre
  have HW2 := hide HB2.out.size
  clear hin hpre ho2 hv1n hv2n hb1
  have hsl := sl_to gk (len + 1) ck len (len : Int) rfl (by omega)
  have K2 := hide (HK.out.on HB2.out)
  have S2 := hide (HS.out.below HB2.out)
  have hst := str_5aW xs
  have hsz : ¬ 9223372036854775807 < (str xs).size + 1 := by rw [str_size, HX.out]; omega
  go_wp2_with (first | (go_at_call 9; refine (sum_any _ _ _ xs _ PK.out K2.out).mono ?_; rintro e w' ⟨rfl, rfl⟩) | (go_at_call 10; refine (sumR_any _ _ _ xs _ S2.out).mono ?_; rintro e w' ⟨rfl, rfl⟩) | (go_at_call 11; refine (extend_any s _ _ _ xs _ hsn PK.out K2.out).mono ?_; rintro e w' ⟨rfl, rfl⟩) | (go_at_call 12; refine (extendR_any s _ _ _ xs _ hsn S2.out).mono ?_; rintro e w' ⟨rfl, rfl⟩) | (refine step_toStr rfl rfl IK.out ?_) | (refine step_toStr rfl rfl S2.out ?_))
  go_ret
  exact ⟨rfl, HB2.out⟩

theorem sums_law (S : Int) (a : Option Addr) (len cap : Nat) (xs : List Int) (w : World) (hS : (Lit.int .u32 S).wf = true) (hs : Sl w a len cap xs) (hl : cap ≤ 140737488351232) (hk : KT w) :
    Calls Tryd.prog 3 #[.int .u32 S, .slice a len cap] w fun e w' => e = .returned (.bool true) ∧ Below w.heap.size w w' := by
  have hb := bounds_u32 hS
  obtain ⟨s, rfl⟩ := Int.eq_ofNat_of_zero_le (show 0 ≤ S by omega)
  exact sums_walk s a len cap xs w (by omega) hs hl hk

end Go.Proofs.YtbkhlbaamjccjaaDoor
