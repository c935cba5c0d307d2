/-
  Writes that would go beyond MaxBytes.
-/
import Derived.Test.YtefaabmkcgdkiaaDoorRk
namespace Go.Proofs.YtefaabmkcgdkiaaDoor
open Go.RowKit
set_option linter.unusedVariables false

set_option maxRecDepth 100000 in
set_option maxHeartbeats 2000000 in
theorem rwrite_big (ws : List Int) (N : Nat) (a : Option Addr) (r cap : Nat) (a1 : Option Addr) (len1 cap1 : Nat) (w : World) (hw : ws.length = 8) (hN : N ≤ 2305843009213693951) (hbig : 2305843009213693951 < N + len1) :
    Calls Tryd.prog 14 #[.agg (rfC ws (N : Int) (.slice a r cap)).toArray, .slice a1 len1 cap1] w fun e w' => e = .returned (.tuple #[.agg (rfC ws (N : Int) (.slice a r cap)).toArray, .int .i64 3]) ∧ Below w.heap.size w w' := by
  have HW := hide hw
  clear hw
  have c1 : ((2305843009213693951 : Int) - (N : Int) < (len1 : Int)) := by omega
  go_enter Tryd.func14, Tryd.ntmps14
  go_wp2_with (refine step_box rfl rfl ?_)
  intro w1 g2 hg1 hle1 hb1
  go_wp2_with (refine step_alloc zRS rfl ?_)
  intro w2 g4 hg2 hle2 hb2
  have G2 := hide (hg1.below hb2 hg1.lt)
  have G4 := hide hg2
  have l4 : w.heap.size ≤ g4 := by have := hb1.size; omega
  have B2 := hide (hb1.trans (hb2.mono hb1.size))
  have HL := hide (rfC_length ws (N : Int) (.slice a r cap) HW.out)
  have d8 : w2.cell? ⟨g2, 8, none⟩ = some (.int .i64 (N : Int)) := by rw [G2.out.cell]; exact rfC_n _ _ _ HW.out
  clear hg1 hg2 hb1 hb2 hle2
  go_wp2_with (first | (refine step_loadA wRS rfl rfl G2.out HL.out ?_) | (refine step_storeA wRS rfl rfl rfl G4.out HL.out (One.rf _ _ _ _ _) rfl ?_; intro w6 hg6 hbut6))
  refine bodyPost_ret (results_wide2 rfl wRS _ _ rfl hg6 HL.out) rfl ⟨rfl, ?_⟩
  exact B2.out.trans (hbut6.below l4)

set_option maxRecDepth 100000 in
set_option maxHeartbeats 2000000 in
theorem write_big (h : List Int) (n0 : Nat) (m : List Int) (g : Nat) (a : Option Addr) (len cap : Nat) (w : World) (hg : Blk w g 65 (stM h n0 m)) (hh : h.length = 8) (hN : n0 + m.length ≤ 2305843009213693951) (hbig : 2305843009213693951 < n0 + m.length + len) :
    Calls Tryd.prog 12 #[.pointer (some ⟨g, 0, none⟩), .slice a len cap] w fun e w' => e = .returned (.int .i64 3) ∧ w = w' := by
  have c9 : w.cell? ⟨g, 9, none⟩ = some (.int .i64 ((n0 + m.length : Nat) : Int)) := by rw [hg.cell]; exact stC_size _ _ _ _ (ov_length _ _ hh _)
  have HG := hide hg
  clear hg hh
  generalize n0 + m.length = N at *
  have hle : ((2305843009213693951 : Int) - (N : Int) < (len : Int)) := by omega
  go_enter Tryd.func12, Tryd.ntmps12
  go_wp2_with (go_at_call 38; refine (made_yes _ _ _ _ _ HG.out).mono ?_; rintro e w' ⟨rfl, rfl⟩)
  go_ret
  exact ⟨rfl, rfl⟩

set_option maxRecDepth 100000 in
set_option maxHeartbeats 2000000 in
theorem clone_any (h : List Int) (n0 : Nat) (m : List Int) (g : Nat) (w : World) (hg : Blk w g 65 (stM h n0 m)) (hh : h.length = 8) :
    Calls Tryd.prog 15 #[.pointer (some ⟨g, 0, none⟩)] w fun e w' => ∃ g', e = .returned (.pointer (some ⟨g', 0, none⟩)) ∧ w.heap.size ≤ g' ∧ Blk w' g' 65 (stM h n0 m) ∧ Below w.heap.size w w' := by
  have HG := hide hg
  have HL := hide (stM_length h n0 m hh)
  clear hg hh
  go_enter Tryd.func15, Tryd.ntmps15
  go_wp2_with (first | (go_at_call 38; refine (made_yes _ _ _ _ _ HG.out).mono ?_; rintro e w' ⟨rfl, rfl⟩) | (refine step_loadA wSt rfl rfl HG.out HL.out ?_) | (refine step_alloc zSt rfl ?_; intro w2 g2 hg2 hle2 hb2; have HG2 := hide hg2; clear hg2; have HO := hide (HG.out.below hb2 HG.out.lt)) | (refine step_loadA wSt rfl rfl HO.out HL.out ?_) | (refine step_storeA wSt rfl rfl rfl HG2.out HL.out (One.st _ _ _ _) rfl ?_; intro w3 hg3 hbut3))
  go_ret
  exact ⟨g2, rfl, hle2, hg3, hb2.trans (hbut3.below hle2)⟩

end Go.Proofs.YtefaabmkcgdkiaaDoor
