/-
  The document's Sum.
-/
import Derived.Test.YtnlpgkfmjlljdaaDoorEn
import Derived.Test.YtnlpgkfmjlljdaaDoorSm
namespace Go.Proofs.YtnlpgkfmjlljdaaDoor
open Go.RowKit
set_option linter.unusedVariables false

set_option maxHeartbeats 1000000 in
theorem sumR_any (a : Option Addr) (len cap : Nat) (xs : List Int) (w : World) (hs : Sl w a len cap xs) (hl : len ≤ 140737488355200) :
    Calls Tryd.prog 61 #[.slice a len cap] w fun e w' => e = .returned (.agg (u8s (dg bL 0 xs)).toArray) ∧ Below w.heap.size w w' := by
  have HS := hide hs
  have HX := hide hs.hlen
  have HD := hide (dg_length bL 0 xs rfl)
  clear hs
  go_enter Tryd.func61, Tryd.ntmps61
  go_wp2_with (refine step_alloc zD0 rfl ?_)
  intro w1 g1 hg1 hle1 hb1
  go_wp2_with fail
  refine (beginR_any _).mono ?_
  rintro e w2 ⟨rfl, hb2⟩
  have hb12 : Below w.heap.size w w2 := hb1.trans (hb2.mono hb1.size)
  have G1 := hide (hg1.below hb2 hg1.lt)
  have S2 := hide (HS.out.below hb12)
  clear hg1 hb1 hb2
  go_wp2_with fail
  refine (endR_any bL len _ _ _ _ _ rfl bL_isW (by omega) S2.out hl).mono ?_
  rintro e w3 ⟨rfl, hb3⟩
  have ED : Hid (wb (ov bL (xs ++ pad len) (bk (xs ++ pad len))) = dg bL 0 xs) := hide (by rw [dg, Nat.zero_add, HX.out])
  rw [ED.out]
  have G3 := hide (G1.out.below hb3 G1.out.lt)
  go_wp2_with (refine step_storeA wD0 rfl rfl rfl G3.out (by rw [u8s_length]; exact HD.out) (One.u8 _) rfl ?_; intro w4 hg4 hbut4)
  refine bodyPost_ret (results_wide rfl wD0 _ _ rfl hg4 (by rw [u8s_length]; exact HD.out)) rfl ⟨rfl, ?_⟩
  exact hb12.trans ((hb3.mono hb12.size).trans (hbut4.below hle1))

end Go.Proofs.YtnlpgkfmjlljdaaDoor
