/-
  Digests compared: bytes.Compare, isBelow, isAhead; whether an index was made.
-/
import Derived.Test.YtabpfbankinojaaDge
import Derived.Test.YtabpfbankinojaaFrg
namespace Go.Proofs.Ytabpfbankinojaa
open Go.RowKit
set_option linter.unusedVariables false
set_option maxRecDepth 100000

theorem wideD : Wide 24 32 := ⟨by kernel_rfl, by kernel_rfl⟩
theorem wideP : Wide 58 33 := ⟨by kernel_rfl, by kernel_rfl⟩
theorem cmp_any (g1 g2 c1 c2 : Nat) (xs ys : List Int) (w : World) (hx : Sl w (some ⟨g1, 0, none⟩) 32 c1 xs) (hy : Sl w (some ⟨g2, 0, none⟩) 32 c2 ys) :
    Calls Try.prog 29 #[.slice (some ⟨g1, 0, none⟩) 32 c1, .slice (some ⟨g2, 0, none⟩) 32 c2] w fun e w' => e = .returned (.int .i64 (Lib.compareBytes (Lib.bytesOf xs) (Lib.bytesOf ys))) ∧ w' = w := by
  have HR := hide (run_cmp (P := Try.prog) w g1 g2 c1 c2 xs ys hx hy)
  go_enter Try.func29, Try.ntmps29
  go_wp2
  rw [run_callFunc_extern Try.func30 (by kernel_rfl) (by kernel_rfl) (by kernel_rfl) (e := Extern.BytealgCompare.compare) (by kernel_rfl), HR.out]
  simp only [Result.andThen]
  rw [Oper.upon_value]
  go_wp2
  go_ret
  exact ⟨rfl, rfl⟩
theorem isBelow_any (xs ys : List Int) (w : World) (hx : xs.length = 32) (hy : ys.length = 32) (bx : isB xs) (bY : isB ys) :
    Calls Try.prog 27 #[.agg (u8s xs).toArray, .agg (u8s ys).toArray] w fun e w' => e = .returned (.bool (decide (kD xs < kD ys))) ∧ Below w.heap.size w w' := by
  have HC := hide (cmp_lt bx bY (by rw [hx, hy]))
  have HX := hide hx
  have HY := hide hy
  have BX := hide bx
  have BY := hide bY
  clear hx hy bx bY
  go_enter Try.func27, Try.ntmps27
  go_wp2_with (refine step_box (cs := u8s xs) rfl rfl ?_)
  intro w1 g1 hg1 hle1 hb1
  have G1 := hide hg1
  have B1 := hide hb1
  clear hg1 hb1
  go_wp2_with (refine step_box (cs := u8s ys) rfl rfl ?_)
  intro w2 g2 hg2 hle2 hb2
  have hs1 : Sl w2 (some ⟨g1, 0, none⟩) 32 32 xs := by
    have := (G1.out.on hb2).sl 0 32 xs (by rw [List.drop_zero, List.take_of_length_le (by rw [u8s_length]; exact Nat.le_refl _)]) BX.out (by rw [HX.out]; omega) (by rw [HX.out]; omega) (by omega)
    rwa [HX.out] at this
  have hs2 : Sl w2 (some ⟨g2, 0, none⟩) 32 32 ys := by
    have := hg2.sl 0 32 ys (by rw [List.drop_zero, List.take_of_length_le (by rw [u8s_length]; exact Nat.le_refl _)]) BY.out (by rw [HY.out]; omega) (by rw [HY.out]; omega) (by omega)
    rwa [HY.out] at this
  have S1 := hide hs1
  have S2 := hide hs2
  have B2 := hide (on_below B1.out hb2)
  clear hg2 hb2 hs1 hs2
  go_wp2_with fail
  go_quiet (first | (go_at_call 29; exact Calls.quiet_of_same (cmp_any _ _ _ _ xs ys _ (S1.out.drewN _) (S2.out.drewN _))))
  go_wp2
  go_ret
  refine ⟨?_, below_drews B2.out _⟩
  rw [← decide_eq_decide.2 HC.out]
  rfl
theorem isAhead_any (x y : Ent) (w : World) :
    Calls Try.prog 20 #[.agg (pc x).toArray, .agg (pc y).toArray] w fun e w' => e = .returned (.bool (decide (kE x < kE y))) ∧ Below w.heap.size w w' := by
  go_enter Try.func20, Try.ntmps20
  go_wp2_with (refine step_box (cs := pc x) rfl rfl ?_)
  intro w1 g1 hg1 hle1 hb1
  have G1 := hide hg1
  have B1 := hide hb1
  clear hg1 hb1
  go_wp2_with (refine step_box (cs := pc y) rfl rfl ?_)
  intro w2 g2 hg2 hle2 hb2
  have G2 := hide hg2
  have G1 := hide (G1.out.on hb2)
  have B2 := hide (on_below B1.out hb2)
  clear hg2 hb2
  go_wp2_with (first | (refine step_load wideD rfl rfl G1.out (u8s x.d) (by rw [u8s_length, x.hl]) (by rw [List.drop_zero]; exact pc_d x) ?_) | (refine step_load wideD rfl rfl G2.out (u8s y.d) (by rw [u8s_length, y.hl]) (by rw [List.drop_zero]; exact pc_d y) ?_))
  refine (isBelow_any x.d y.d _ x.hl y.hl x.hb y.hb).mono ?_
  rintro e w3 ⟨rfl, hb3⟩
  have B3 := hide (on_below B2.out hb3)
  clear hb3
  go_wp2
  go_ret
  exact ⟨rfl, B3.out⟩

/-- A pointer to an index, made (its runs in v) or not. -/
def PI (w : World) (g : Nat) (m : Bool) (v : Value) : Prop := Blk w g 42 [.bool m, v]
theorem made_nil (w : World) : Calls Try.prog 18 #[.pointer none] w fun e w' => e = .returned (.bool false) ∧ w' = w := by
  go_enter Try.func18, Try.ntmps18
  go_wp2
  go_ret
  exact ⟨rfl, rfl⟩
theorem made_at (g : Nat) (m : Bool) (v : Value) (w : World) (h : PI w g m v) : Calls Try.prog 18 #[.pointer (some ⟨g, 0, none⟩)] w fun e w' => e = .returned (.bool m) ∧ w' = w := by
  have hc : w.cell? ⟨g, 0, none⟩ = some (.bool m) := by rw [Blk.cell h]; rfl
  go_enter Try.func18, Try.ntmps18
  go_wp2
  go_ret
  exact ⟨rfl, rfl⟩

end Go.Proofs.Ytabpfbankinojaa
