/-
  The law's same, lent, names: two proofs with the same digests are the same.
-/
import Derived.Test.YtojepbapdjkknaaDoorWe
namespace Go.Proofs.YtojepbapdjkknaaDoor
open Go.RowKit
set_option linter.unusedVariables false
set_option linter.unusedSimpArgs false

theorem names8 (w : World) : Calls Tryd.prog 17 #[] w fun r w' => r = .returned (.bool true) ∧ w' = w := by
  go_enter Tryd.func17, Tryd.ntmps17
  go_wp2
  go_ret
  exact ⟨rfl, rfl⟩
set_option maxRecDepth 100000 in
set_option maxHeartbeats 1000000 in
theorem samep (k i n : Int) (a a' : Option Addr) (m cap cap' : Nat) (xs : List Int) (w : World) (hs : Ds w a m cap xs) (hs' : Ds w a' m cap' xs) :
    Calls Tryd.prog 16 #[.agg (pfC k i n (.slice a m cap)).toArray, .agg (pfC k i n (.slice a' m cap')).toArray] w fun r w' => r = .returned (.bool true) ∧ Below w.heap.size w w' := by
  have hm := hs.hreach
  have HS := hide hs
  have HS' := hide hs'
  clear hs hs'
  go_enter Tryd.func16, Tryd.ntmps16
  go_wp2_with (refine step_box (cs := pfC k i n (.slice a m cap)) rfl rfl ?_)
  intro w1 g1 hr1 hl1 hb1
  go_wp2_with (refine step_box (cs := pfC k i n (.slice a' m cap')) rfl rfl ?_)
  intro w2 g2 hr2 hl2 hb2
  have B2 := hide (on_below hb1 hb2)
  have R1 := hide (hr1.on hb2)
  have R2 := hide hr2
  obtain ⟨c10, c11, c12, c13⟩ := pf_at R1.out
  obtain ⟨c20, c21, c22, c23⟩ := pf_at R2.out
  clear hr1 hr2 hb1 hb2
  go_wp2_with fail
  go_loopw [5] (fun s W => ∃ q : Nat, q ≤ m ∧ s = .int .i64 (q : Int) ∧ Below w2.heap.size w2 W) (fun s _ => m - (intOf s).toNat)
  case atStart => exact ⟨0, by omega, rfl, Below.refl _ _⟩
  case round =>
    obtain ⟨q, hqm, rfl, hbq⟩ := hrel
    have BQ := hide hbq
    have e13 := cell_kept c13 hbq
    have e23 := cell_kept c23 hbq
    clear hbq
    by_cases hlt : q < m
    · have hlt' : (q : Int) < (m : Int) := by omega
      obtain ⟨b, o, rfl⟩ := HS.out.place (by omega)
      obtain ⟨b', o', rfl⟩ := HS'.out.place (by omega)
      have hdl := dat_length HS.out.hlen hlt
      have HDU := hide (show (u8s (dat xs q)).length = 32 by rw [u8s_length, hdl])
      have hu := aD.und
      have HI1 : Hid ((Tryd.prog.info? 45).map (·.size) = some (u8s (dat xs q)).length) := hide (by rw [wD.size, HDU.out])
      have HDL := hide hdl
      have hrg : ∀ v : World, Below w.heap.size w v → v.rangeAt b (o + 32 * q) (u8s (dat xs q)) ∧ v.rangeAt b' (o' + 32 * q) (u8s (dat xs q)) := fun v hv => ⟨(HS.out.below hv).range q hlt, (HS'.out.below hv).range q hlt⟩
      have HRG := hide hrg
      have B0 := hide (BQ.out.drew)
      have hBW : ∀ v : World, Below w2.heap.size w2 v → Below w.heap.size w v := fun v hv => on_below B2.out hv
      have hk3 : ∀ v : World, Below w2.heap.size w2 v → v.cell? ⟨g1, 3, none⟩ = some (.slice (some ⟨b, o, none⟩) m cap) := fun v hv => cell_kept c13 hv
      have hk4 : ∀ v : World, Below w2.heap.size w2 v → v.cell? ⟨g2, 3, none⟩ = some (.slice (some ⟨b', o', none⟩) m cap') := fun v hv => cell_kept c23 hv
      clear hdl hrg
      go_wp2_with fail
      refine wp_region_noPanic ?_
      refine wp_region_held_drew (S := fun v : World => Below w2.heap.size w2 v) (by kernel_rfl) B0.out (fun hHeld => ?_)
      refine takeH 0 41 (.pointer (some ⟨g1, 3, none⟩)) hHeld rfl rfl (by kernel_rfl) (by kernel_rfl) (by kernel_rfl) (fun _ _ _ h => h) (Or.inl ⟨by rfl, fun w _ => by go_simp⟩) ?_
      simp only [Act.put, List.setIfInBounds_toArray, List.set_cons_zero, List.set_cons_succ]
      refine takeH 1 42 (.slice (some ⟨b, o, none⟩) m cap) hHeld rfl rfl (by kernel_rfl) (by kernel_rfl) (by kernel_rfl) (fun _ _ _ h => h) (Or.inl ⟨by rfl, fun w hw => by have hw' : w.cell? ⟨g1, 3, none⟩ = some (.slice (some ⟨b, o, none⟩) m cap) := hk3 _ hw; go_simp⟩) ?_
      simp only [Act.put, List.setIfInBounds_toArray, List.set_cons_zero, List.set_cons_succ]
      refine takeH 2 43 (.int .i64 (q : Int)) hHeld rfl rfl (by kernel_rfl) (by kernel_rfl) (by kernel_rfl) (fun _ _ _ h => h) (Or.inl ⟨by rfl, fun w _ => by go_simp⟩) ?_
      simp only [Act.put, List.setIfInBounds_toArray, List.set_cons_zero, List.set_cons_succ]
      refine takeH 3 44 (.pointer (some ⟨b, o + 32 * q, none⟩)) hHeld rfl rfl (by kernel_rfl) (by kernel_rfl) (by kernel_rfl) (fun _ _ _ h => h) (Or.inl ⟨by rfl, fun w _ => run_op rfl ((d_at b o m cap q (q : Int) rfl hlt) w)⟩) ?_
      simp only [Act.put, List.setIfInBounds_toArray, List.set_cons_zero, List.set_cons_succ]
      refine takeH 4 45 (.agg (u8s (dat xs q)).toArray) hHeld rfl rfl (by kernel_rfl) (by kernel_rfl) (by kernel_rfl) (fun _ _ _ h => h) (yieldsIf_load_mid (by rfl) _ _ rfl b (o + 32 * q) rfl _ _ (fun w h => (HRG.out w (hBW w h)).1) hu rfl HI1.out) ?_
      simp only [Act.put, List.setIfInBounds_toArray, List.set_cons_zero, List.set_cons_succ]
      refine takeH 5 46 (.pointer (some ⟨g2, 3, none⟩)) hHeld rfl rfl (by kernel_rfl) (by kernel_rfl) (by kernel_rfl) (fun _ _ _ h => h) (Or.inl ⟨by rfl, fun w _ => by go_simp⟩) ?_
      simp only [Act.put, List.setIfInBounds_toArray, List.set_cons_zero, List.set_cons_succ]
      refine takeH 6 47 (.slice (some ⟨b', o', none⟩) m cap') hHeld rfl rfl (by kernel_rfl) (by kernel_rfl) (by kernel_rfl) (fun _ _ _ h => h) (Or.inl ⟨by rfl, fun w hw => by have hw' : w.cell? ⟨g2, 3, none⟩ = some (.slice (some ⟨b', o', none⟩) m cap') := hk4 _ hw; go_simp⟩) ?_
      simp only [Act.put, List.setIfInBounds_toArray, List.set_cons_zero, List.set_cons_succ]
      refine takeH 7 48 (.int .i64 (q : Int)) hHeld rfl rfl (by kernel_rfl) (by kernel_rfl) (by kernel_rfl) (fun _ _ _ h => h) (Or.inl ⟨by rfl, fun w _ => by go_simp⟩) ?_
      simp only [Act.put, List.setIfInBounds_toArray, List.set_cons_zero, List.set_cons_succ]
      refine takeH 8 49 (.pointer (some ⟨b', o' + 32 * q, none⟩)) hHeld rfl rfl (by kernel_rfl) (by kernel_rfl) (by kernel_rfl) (fun _ _ _ h => h) (Or.inl ⟨by rfl, fun w _ => run_op rfl ((d_at b' o' m cap' q (q : Int) rfl hlt) w)⟩) ?_
      simp only [Act.put, List.setIfInBounds_toArray, List.set_cons_zero, List.set_cons_succ]
      refine takeH 9 50 (.agg (u8s (dat xs q)).toArray) hHeld rfl rfl (by kernel_rfl) (by kernel_rfl) (by kernel_rfl) (fun _ _ _ h => h) (yieldsIf_load_mid (by rfl) _ _ rfl b' (o' + 32 * q) rfl _ _ (fun w h => (HRG.out w (hBW w h)).2) hu rfl HI1.out) ?_
      simp only [Act.put, List.setIfInBounds_toArray, List.set_cons_zero, List.set_cons_succ]
      refine takeH 10 51 (.bool false) hHeld rfl rfl (by kernel_rfl) (by kernel_rfl) (by kernel_rfl) (fun _ _ _ h => h) (Or.inl ⟨by rfl, fun v _ => run_neT aD _ rfl rfl HDL.out⟩) ?_
      simp only [Act.put, List.setIfInBounds_toArray, List.set_cons_zero, List.set_cons_succ]
      refine wpAnyH_done (by kernel_rfl) ?_ _
      refine NoPanic.normal ?_
      clear hHeld hu hBW hk3 hk4
      go_wp2
      exact ⟨⟨q + 1, by omega, by go_num, B0.out⟩, by simp [intOf]; omega⟩
    · have hlt' : ¬ ((q : Int) < (m : Int)) := by omega
      go_wp2
      go_ret
      exact ⟨rfl, on_below B2.out BQ.out⟩

end Go.Proofs.YtojepbapdjkknaaDoor
