/-
  octet.Digest; compact.readSpan.
-/
import Derived.Test.YtnlpgkfmjlljdaaDoorOb
import Derived.Test.YtnlpgkfmjlljdaaDoorRf
namespace Go.Proofs.YtnlpgkfmjlljdaaDoor
open Go.RowKit
set_option linter.unusedVariables false

set_option maxHeartbeats 400000 in
theorem octD_bad (a : Option Addr) (len cap : Nat) (p : Int) (w : World) (hl : len ≤ 140737488355328) (h : p < 0 ∨ (len : Int) < p ∨ (len : Int) - p < 32) :
    Calls Tryd.prog 48 #[.slice a len cap, .int .i64 p] w fun e w' => (∃ E, E ≠ 0 ∧ e = .returned (.tuple #[.agg (u8s (zer 32)).toArray, .int .i64 0, .int .i64 E])) ∧ Below w.heap.size w w' := by
  have e3 : rdE len p 32 = 2 ∨ rdE len p 32 = 10 := by
    by_cases h1 : p < 0 ∨ (len : Int) < p
    · left; simp [rdE, h1]
    · right; have h2 : (len : Int) - p < 32 := by omega
      simp [rdE, h1, h2]
  have hne0 : rdE len p 32 ≠ 0 := by omega
  have hne : (rdE len p 32 != 0) = true := by simp; omega
  have HNE := hide hne0
  clear e3 h hne0
  go_enter Tryd.func48, Tryd.ntmps48
  go_wp2_with (refine step_alloc zD rfl ?_)
  intro w1 g1 hr1 hg1 hb1
  have G1 := hide hr1
  clear hr1
  go_wp2_with (first | (go_at_call 60; refine (room_any _ _ _ _ 32 _ hl (by omega)).mono ?_; rintro e w' ⟨rfl, rfl⟩) | (refine step_buildD rfl ?_) | (refine step_storeA wD rfl rfl rfl G1.out rfl (One.u8 _) rfl ?_; intro w2 hg2 hbut))
  refine bodyPost_ret (results_wide3 rfl wD _ _ rfl hg2 rfl) rfl ⟨⟨_, HNE.out, rfl⟩, ?_⟩
  exact hb1.trans (hbut.below hg1)

theorem spl_full {cs vs : List Value} (h : vs.length = cs.length) : spl cs vs 0 = vs := by
  unfold spl
  rw [List.drop_of_length_le (by omega)]
  simp
set_option maxHeartbeats 400000 in
theorem octD_ok (b off len cap : Nat) (xs : List Int) (p : Nat) (w : World) (hs : Sl w (some ⟨b, off, none⟩) len cap xs) (h : p + 32 ≤ len) :
    Calls Tryd.prog 48 #[.slice (some ⟨b, off, none⟩) len cap, .int .i64 (p : Int)] w fun e w' => e = .returned (.tuple #[.agg (u8s ((xs.drop p).take 32)).toArray, .int .i64 (p + 32 : Int), .int .i64 0]) ∧ Below w.heap.size w w' := by
  have hl := hs.hreach
  have hcap := hs.hcap
  have HS := hide hs
  obtain ⟨ys, HYE⟩ : ∃ ys, Hid ((xs.drop p).take 32 = ys) := ⟨_, hide rfl⟩
  have HY : Hid (ys.length = 32) := hide (by rw [← HYE.out]; simp; have := hs.hlen; omega)
  have HUL : Hid ((u8s ys).length = 32) := hide (by rw [u8s_length, HY.out])
  rw [HYE.out]
  have E3 : Hid (rdE len p 32 = 0) := by show _ = _; simp [rdE]; omega
  clear hs
  go_enter Tryd.func48, Tryd.ntmps48
  go_wp2_with (refine step_alloc zD rfl ?_)
  intro w1 g1 hr1 hg1 hb1
  go_wp2_with (go_at_call 60; refine (room_any _ _ _ _ 32 _ hl (by omega)).mono ?_; rintro e w' ⟨rfl, rfl⟩; rw [E3.out])
  have hpl : p ≤ len := by omega
  have hpc : ¬ cap = p := by omega
  have HD := hide ((((HS.out.below hb1).drop p hpl)).below ((Below.refl _ _).drew))
  go_region_law (refine rstep_copy rfl rfl rfl rfl HD.out g1 0 32 (by omega) hr1 (fun _ => rfl) (by simp [u8s_length, zer_length]) ?_; intro w3 hr3 hbut3)
  rw [HYE.out, spl_full (by rw [HUL.out]; rfl)] at hr3
  have G3 := hide hr3
  have hb3 : Below w.heap.size w w3 := hb1.drew.trans (hbut3.below hg1)
  clear hr1 hr3 hbut3 HD
  go_wp2_with (first | (refine step_loadA wD rfl rfl G3.out HUL.out ?_) | (refine step_storeA wD rfl rfl rfl G3.out HUL.out (One.u8 _) HUL.out ?_))
  intro w5 hr5 hbut5
  go_wp2
  refine bodyPost_ret (results_wide3 rfl wD _ _ rfl hr5 HUL.out) rfl ⟨?_, hb3.trans (hbut5.below hg1)⟩
  simp

end Go.Proofs.YtnlpgkfmjlljdaaDoor
