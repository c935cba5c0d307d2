/-
  The program's Sum.
-/
import Derived.Test.YtnlpgkfmjlljdaaDoorWb
namespace Go.Proofs.YtnlpgkfmjlljdaaDoor
open Go.RowKit
set_option linter.unusedVariables false

set_option maxHeartbeats 1000000 in
theorem sum_any (a : Option Addr) (len cap : Nat) (xs : List Int) (w : World) (hs : Sl w a len cap xs) (hk : KT w) :
    Calls Tryd.prog 58 #[.slice a len cap] w fun e w' => e = .returned (.agg (u8s (dg bL 0 xs)).toArray) ∧ Below w.heap.size w w' := by
  have HS := hide hs
  have HK := hide hk
  have HX := hide hs.hlen
  have HXB := hide hs.hbyte
  have HD := hide (dg_length bL 0 xs rfl)
  have hr := hs.hreach
  clear hs hk
  go_enter Tryd.func58, Tryd.ntmps58
  go_wp2_with (refine step_alloc zD rfl ?_)
  intro w1 g1 hg1 hle1 hb1
  go_wp2_with fail
  refine (begun_any _).mono ?_
  rintro e w2 ⟨rfl, hb2⟩
  have hb12 : Below w.heap.size w w2 := hb1.trans (hb2.mono hb1.size)
  have G1 := hide (hg1.below hb2 hg1.lt)
  have HL := hide (stM_length bL 0 [] rfl)
  go_wp2_with (refine step_alloc zSt rfl ?_)
  intro w3 g3 hg3 hle3 hb3
  go_wp2_with (refine step_storeA wSt rfl rfl rfl hg3 HL.out (One.st _ _ _ _) rfl ?_)
  intro w4 hg4 hbut4
  have hb24 : Below w2.heap.size w2 w4 := hb3.trans (hbut4.below hle3)
  have G14 := hide (G1.out.below hb24 G1.out.lt)
  have G4 := hide hg4
  have HB4 := hide (hb12.trans (hb24.mono hb12.size))
  have S4 := hide (HS.out.below HB4.out)
  have K4 := hide (HK.out.below HB4.out HK.out.lt)
  have hg30 : g3 ≠ 6 := by have := HK.out.lt; have := hb12.size; omega
  have hw3 : w.heap.size ≤ g3 := by have := hb12.size; omega
  have hg13 : g1 ≠ g3 := by have := G1.out.lt; omega
  have hap := HS.out.apart hw3
  clear hg1 hb1 hb2 hg3 hb3 hle3 hg4 hbut4 hb12 hb24 G1
  go_wp2_with fail
  refine (take_any bL 0 [] g3 _ _ _ _ _ G4.out rfl rfl (by intro x hx; simp at hx) S4.out hap K4.out hg30 (by simp; omega)).mono ?_
  rintro e w5 ⟨rfl, hg5, hc5⟩
  rw [List.nil_append] at hg5
  have G5 := hide hg5
  have G15 := hide (G14.out.chg hc5 hg13)
  have HB5 := hide (HB4.out.trans (hc5.below hw3 HB4.out.size))
  have K5 := hide (HK.out.below HB5.out HK.out.lt)
  clear hg5 hc5 G4 G14 HB4 S4 K4 hap
  go_wp2_with (first | (go_at_call 78; refine (digest_any bL 0 xs g3 _ G5.out rfl rfl HXB.out K5.out (by rw [HX.out]; omega)).mono ?_; rintro e w6 ⟨rfl, hb6⟩; have G16 := hide (G15.out.below hb6 G15.out.lt)) | (refine step_storeA wD rfl rfl rfl G16.out (by rw [u8s_length]; exact HD.out) (One.u8 _) rfl ?_; intro w7 hg7 hbut7))
  refine bodyPost_ret (results_wide rfl wD _ _ rfl hg7 (by rw [u8s_length]; exact HD.out)) rfl ⟨rfl, ?_⟩
  exact HB5.out.trans ((hb6.mono HB5.out.size).trans (hbut7.below hle1))

end Go.Proofs.YtnlpgkfmjlljdaaDoor
