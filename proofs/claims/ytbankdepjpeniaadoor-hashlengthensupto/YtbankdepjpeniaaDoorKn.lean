/-
  The digests that are known: of nothing, and of abc.
-/
import Derived.Test.YtbankdepjpeniaaDoorSm
import Derived.Lib.SlBytesConst
namespace Go.Proofs.YtbankdepjpeniaaDoor
open Go.RowKit
set_option linter.unusedVariables false
set_option maxRecDepth 1000000

theorem kn0 : (dg bL 0 []).getD 0 0 = 227 := by decide +kernel
theorem kn1 : (dg bL 0 []).getD 31 0 = 85 := by decide +kernel
theorem kn2 : (dg bL 0 [97, 98, 99]).getD 0 0 = 186 := by decide +kernel
theorem kn3 : (dg bL 0 [97, 98, 99]).getD 31 0 = 173 := by decide +kernel

theorem Sl.nil (w : World) : Sl w none 0 0 [] := ⟨rfl, Nat.le_refl _, by omega, by omega, (fun x hx => by simp at hx), fun _ => ⟨rfl, rfl⟩, fun h => absurd h (by omega)⟩

theorem abc_sl (w : World) : Sl (w.alloc (.cells #[.int .u8 97, .int .u8 98, .int .u8 99] 5 (3, 4))) (some ⟨w.heap.size, 0, none⟩) 3 3 [97, 98, 99] := by
  refine ⟨rfl, Nat.le_refl _, by omega, by omega, (by intro x hx; simp at hx; omega), (fun e => by cases e), fun _ => ⟨w.heap.size, 0, rfl, fun i hi => ?_⟩⟩
  rw [Nat.zero_add, cell_of_row _ _ i _ _ _ (heap_alloc_new w _)]
  match i, hi with
  | 0, _ => rfl
  | 1, _ => rfl
  | 2, _ => rfl

set_option maxHeartbeats 2000000 in
theorem known_any (w : World) (hk : KT w) : Calls Tryd.prog 22 #[] w fun e w' => e = .returned (.bool true) ∧ Below w.heap.size w w' := by
  have HK := hide hk
  have HD0 := hide (dg_length bL 0 [] rfl)
  have HD1 := hide (dg_length bL 0 [97, 98, 99] rfl)
  have K0 := hide kn0
  have K1 := hide kn1
  have K2 := hide kn2
  have K3 := hide kn3
  clear hk
  go_enter Tryd.func22, Tryd.ntmps22
  go_wp2_with fail
  refine (sum_any none 0 0 [] _ (Sl.nil _) HK.out).mono ?_
  rintro e w1 ⟨rfl, hb1⟩
  generalize dg bL 0 [] = d0 at *
  have hcv := Lib.run_convert_bytes_const (P := Tryd.prog) w1 22 5 #[.int .u8 97, .int .u8 98, .int .u8 99] 3 3 undBs undB
  go_wp2_with fail
  have hb2 : Below w.heap.size w (w1.alloc (.cells #[.int .u8 97, .int .u8 98, .int .u8 99] 5 (3, 4))) := hb1.alloc hb1.size _
  refine (sum_any (some ⟨w1.heap.size, 0, none⟩) 3 3 [97, 98, 99] _ (abc_sl w1) (HK.out.below hb2 HK.out.lt)).mono ?_
  rintro e w2 ⟨rfl, hb3⟩
  have HB2 := hide (hb2.trans (hb3.mono hb2.size))
  clear hb1 hb2 hb3
  generalize dg bL 0 [97, 98, 99] = d1 at *
  go_wp2_with (refine step_alloc zD rfl ?_)
  intro w3 g3 hg3 hle3 hb3
  go_wp2_with (refine step_alloc zD rfl ?_)
  intro w4 g4 hg4 hle4 hb4
  have G3 := hide (hg3.below hb4 hg3.lt)
  have n34 : g3 ≠ g4 := by have := hg3.lt; omega
  go_wp2_with (refine step_storeA wD rfl rfl rfl G3.out (by rw [u8s_length]; exact HD0.out) (One.u8 _) rfl ?_)
  intro w5 hg5 hbut5
  have G4 := hide (hg4.but hbut5 (fun e => n34 e.symm))
  go_wp2_with (refine step_storeA wD rfl rfl rfl G4.out (by rw [u8s_length]; exact HD1.out) (One.u8 _) rfl ?_)
  intro w6 hg6 hbut6
  have G36 := hide (hg5.but hbut6 n34)
  have G46 := hide hg6
  have c0 : w6.cell? ⟨g3, 0, none⟩ = some (.int .u8 227) := by rw [G36.out.cell, u8s_get _ _ (by rw [HD0.out]; omega), K0.out]
  have c1 : w6.cell? ⟨g3, 31, none⟩ = some (.int .u8 85) := by rw [G36.out.cell, u8s_get _ _ (by rw [HD0.out]; omega), K1.out]
  have c2 : w6.cell? ⟨g4, 0, none⟩ = some (.int .u8 186) := by rw [G46.out.cell, u8s_get _ _ (by rw [HD1.out]; omega), K2.out]
  have c3 : w6.cell? ⟨g4, 31, none⟩ = some (.int .u8 173) := by rw [G46.out.cell, u8s_get _ _ (by rw [HD1.out]; omega), K3.out]
  go_wp2
  go_ret
  refine ⟨rfl, HB2.out.trans (Below.mono ?_ HB2.out.size)⟩
  exact hb3.trans ((hb4.mono hb3.size).trans ((hbut5.below hle3).trans (hbut6.below (by have := hb3.size; omega))))

end Go.Proofs.YtbankdepjpeniaaDoor
