/-
  The document's Save.
-/
import Derived.Test.YtefaabmkcgdkiaaDoorRm
namespace Go.Proofs.YtefaabmkcgdkiaaDoor
open Go.RowKit
set_option linter.unusedVariables false

theorem own_cast' {w : World} {B : Nat} {v : Value} {l l' : List Int} (h : Own w B v l) (e : l = l') : Own w B v l' := e ▸ h

set_option maxRecDepth 100000 in
set_option maxHeartbeats 2000000 in
theorem rsave_any (h : List Int) (n0 : Nat) (m : List Int) (a : Option Addr) (cap : Nat) (w : World) (hh : h.length = 8) (hw : isW h) (hs : Sl w a (m.length % 64) cap (tl m)) (hbd : n0 + m.length ≤ 2305843009213693951) :
    Calls Tryd.prog 37 #[.agg (rfC (ov h m (bk m)) ((n0 + m.length : Nat) : Int) (.slice a (m.length % 64) cap)).toArray] w fun e w' => ∃ v, e = .returned v ∧ Own w' w.heap.size v (sv h n0 m) ∧ v ≠ .slice none 0 0 ∧ Below w.heap.size w w' := by
  have HOL := hide (ov_length h m hh (bk m))
  have HOW := hide (ov_isW h m hw (bk m))
  have HS := hide hs
  have HWL := hide (show (wb (ov h m (bk m))).length = 32 by rw [wb_length, HOL.out])
  have ESV : Hid (sv h n0 m = wb (ov h m (bk m)) ++ be ((n0 + m.length : Nat) : Int) 8 ++ tl m) := hide rfl
  clear hs hh hw
  generalize hN : n0 + m.length = N at *
  generalize hr : m.length % 64 = r at *
  have hr64 : r < 64 := by omega
  clear hN hr
  go_enter Tryd.func37, Tryd.ntmps37
  go_wp2_with (refine step_box rfl rfl ?_)
  intro w1 g1 hg1 hle1 hb1
  have G1 := hide hg1
  have S1 := hide (HS.out.below hb1)
  have SRS : ∀ v : World, Below w1.heap.size w1 v → v.rangeAt g1 0 (u32s (ov h m (bk m))) ∧ v.cell? ⟨g1, 8, none⟩ = some (.int .i64 (N : Int)) ∧ v.cell? ⟨g1, 9, none⟩ = some (.slice a r cap) := fun v hv => by
    have g := G1.out.below hv G1.out.lt
    refine ⟨g.range 0 _ (by rw [u32s_length, HOL.out]; exact rfC_words _ _ _ HOL.out), ?_, ?_⟩
    · rw [g.cell]; exact rfC_n _ _ _ HOL.out
    · rw [g.cell]; exact rfC_v _ _ _ HOL.out
  have hu1 := aW8.und
  have hi1 : (Tryd.prog.info? 26).map (·.size) = some (u32s (ov h m (bk m))).length := by rw [wW.size, u32s_length, HOL.out]
  have b1 : Below w1.heap.size w1 w1.drew := (Below.refl _ _).drew
  clear hg1
  go_wp2_with fail
  refine wp_region_noPanic ?_
  refine wp_region_held_drew (S := fun v : World => v.rangeAt g1 0 (u32s (ov h m (bk m))) ∧ v.cell? ⟨g1, 8, none⟩ = some (.int .i64 (N : Int)) ∧ v.cell? ⟨g1, 9, none⟩ = some (.slice a r cap)) (by kernel_rfl) (SRS _ b1) (fun hHeld => ?_)
  refine takeH 0 3 (.pointer (some ⟨g1, 0, none⟩)) hHeld rfl rfl (by kernel_rfl) (by kernel_rfl) (by kernel_rfl) (fun _ _ _ h => h) (Or.inl ⟨by rfl, fun w _ => by go_simp⟩) ?_
  simp only [Act.put, List.setIfInBounds_toArray, List.set_cons_zero, List.set_cons_succ]
  refine takeH 1 4 (.agg (u32s (ov h m (bk m))).toArray) hHeld rfl rfl (by kernel_rfl) (by kernel_rfl) (by kernel_rfl) (fun _ _ _ h => h) (yieldsIf_load_mid (by rfl) _ _ rfl g1 0 rfl _ _ (fun w h => h.1) hu1 rfl hi1) ?_
  simp only [Act.put, List.setIfInBounds_toArray, List.set_cons_zero, List.set_cons_succ]
  refine takeH 3 6 (.pointer (some ⟨g1, 8, none⟩)) hHeld rfl rfl (by kernel_rfl) (by kernel_rfl) (by kernel_rfl) (fun _ _ _ h => h) (Or.inl ⟨by rfl, fun w _ => by go_simp⟩) ?_
  simp only [Act.put, List.setIfInBounds_toArray, List.set_cons_zero, List.set_cons_succ]
  refine takeH 4 7 (.int .i64 (N : Int)) hHeld rfl rfl (by kernel_rfl) (by kernel_rfl) (by kernel_rfl) (fun _ _ _ h => h) (Or.inl ⟨by rfl, fun w hw => by have hw' : w.cell? ⟨g1, 8, none⟩ = some (.int .i64 (N : Int)) := hw.2.1; go_simp⟩) ?_
  simp only [Act.put, List.setIfInBounds_toArray, List.set_cons_zero, List.set_cons_succ]
  refine takeH 5 8 (.int .u64 (N : Int)) hHeld rfl rfl (by kernel_rfl) (by kernel_rfl) (by kernel_rfl) (fun _ _ _ h => h) (Or.inl ⟨by rfl, fun w _ => by go_simp; rw [IntKind.wrap_u64]; omega⟩) ?_
  simp only [Act.put, List.setIfInBounds_toArray, List.set_cons_zero, List.set_cons_succ]
  refine takeH 8 11 (.pointer (some ⟨g1, 9, none⟩)) hHeld rfl rfl (by kernel_rfl) (by kernel_rfl) (by kernel_rfl) (fun _ _ _ h => h) (Or.inl ⟨by rfl, fun w _ => by go_simp⟩) ?_
  simp only [Act.put, List.setIfInBounds_toArray, List.set_cons_zero, List.set_cons_succ]
  refine takeH 9 12 (.slice a r cap) hHeld rfl rfl (by kernel_rfl) (by kernel_rfl) (by kernel_rfl) (fun _ _ _ h => h) (Or.inl ⟨by rfl, fun w hw => by have hw' : w.cell? ⟨g1, 9, none⟩ = some (.slice a r cap) := hw.2.2; go_simp⟩) ?_
  simp only [Act.put, List.setIfInBounds_toArray, List.set_cons_zero, List.set_cons_succ]
  refine wpAnyH_ready (rs := [2]) (by kernel_rfl) (by simp) (AllReadyH.cons rfl (fun K hK => ?_) AllReadyH.nil)
  rw [if_pos (by rfl)]
  go_simp
  refine (wordsR_any _ _ HOL.out HOW.out).mono ?_
  rintro e w2 ⟨v2, rfl, ho2, hn2, hx2⟩
  have b2 := b1.trans (hx2.mono b1.size)
  have o2 := ho2.mono b1.size
  refine hK.out _ _ (SRS _ b2) (fun hHeld => ?_)
  clear hK K
  refine wpAnyH_ready (rs := [6]) (by kernel_rfl) (by simp) (AllReadyH.cons rfl (fun K hK => ?_) AllReadyH.nil)
  rw [if_pos (by rfl)]
  go_simp
  refine (number_ref _ 8 _ (by omega) (by omega) (by omega)).mono ?_
  rintro e w3 ⟨g3, rfl, hle3, hg3, hx3⟩
  have b3 := b2.trans (hx3.mono b2.size)
  have o3 := o2.below hx3
  have s3 := be_sl hg3 (by omega)
  refine hK.out _ _ (SRS _ b3) (fun hHeld => ?_)
  clear hK K
  refine wpAnyH_ready (rs := [7]) (by kernel_rfl) (by simp) (AllReadyH.cons rfl (fun K hK => ?_) AllReadyH.nil)
  rw [if_pos (by rfl)]
  refine wp_appendB rfl rfl rfl o3 s3 (by rw [HWL.out]; omega) b3.size ?_
  intro v4 w4 ho4 hg4 hn4
  have b4 := b3.grown hg4 b3.size o3.lt
  have hv4 : v4 ≠ .slice none 0 0 := fun e => hn2 (hn4 e).1
  refine hK.out _ _ (SRS _ b4) (fun hHeld => ?_)
  clear hK K
  refine wpAnyH_ready (rs := [10]) (by kernel_rfl) (by simp) (AllReadyH.cons rfl (fun K hK => ?_) AllReadyH.nil)
  rw [if_pos (by rfl)]
  refine wp_appendB rfl rfl rfl ho4 (S1.out.below b4) (by rw [List.length_append, HWL.out, be_length]; omega) b4.size ?_
  intro v5 w5 ho5 hg5 hn5
  have b5 := b4.grown hg5 b4.size ho4.lt
  have hv5 : v5 ≠ .slice none 0 0 := fun e => hv4 (hn5 e).1
  refine hK.out _ _ (SRS _ b5) (fun hHeld => ?_)
  clear hK K
  refine takeH 11 2 (v5) hHeld rfl rfl (by kernel_rfl) (by kernel_rfl) (by kernel_rfl) (fun _ _ _ h => h) (Or.inl ⟨by rfl, fun w _ => by go_simp⟩) ?_
  simp only [Act.put, List.setIfInBounds_toArray]
  refine wpAnyH_done (by kernel_rfl) ?_ _
  refine NoPanic.normal ?_
  have O5 := hide (own_cast' ho5 ESV.out.symm)
  clear hHeld SRS
  go_wp2
  go_ret
  exact ⟨v5, by simp, O5.out.mono hb1.size, hv5, hb1.trans (b5.mono hb1.size)⟩

end Go.Proofs.YtefaabmkcgdkiaaDoor
