/-
  The program's and the document's digests of two.
-/
import Derived.Test.YtnlpgkfmjlljdaaDoorTd
namespace Go.Proofs.YtnlpgkfmjlljdaaDoor
open Go.RowKit
set_option linter.unusedVariables false

theorem z65 : Zeroed 92 (u8s (zer 65)) := fun _ _ _ _ _ _ _ => by kernel_rfl
theorem slice65_1 (g : Nat) (v : World) : (Instr.sliceAt 92 (.pointer (some ⟨g, 0, none⟩)) (some (.int .i64 1)) none none).run Tryd.prog v = .ok (.slice (some ⟨g, 1, none⟩) 64 64) v := by kernel_rfl
theorem slice65_33 (g : Nat) (v : World) : (Instr.sliceAt 92 (.pointer (some ⟨g, 0, none⟩)) (some (.int .i64 33)) none none).run Tryd.prog v = .ok (.slice (some ⟨g, 33, none⟩) 32 32) v := by kernel_rfl
theorem slice65 (g : Nat) (v : World) : (Instr.sliceAt 92 (.pointer (some ⟨g, 0, none⟩)) none none none).run Tryd.prog v = .ok (.slice (some ⟨g, 0, none⟩) 65 65) v := by kernel_rfl
theorem node_1 (l : List Int) (hl : l.length = 32) : spl ((u8s (zer 65)).set 0 (.int .u8 1)) (u8s (l.take 32)) 1 = u8s (1 :: (l ++ zer 32)) := by
  rw [u8s_set, List.take_of_length_le (by omega), spl_u8]
  congr 1
  simp [splB, hl, zer, List.replicate]
theorem node_2 (l r : List Int) (hl : l.length = 32) (hr : r.length = 32) : spl (u8s (1 :: (l ++ zer 32))) (u8s (r.take 32)) 33 = u8s (1 :: (l ++ r)) := by
  rw [List.take_of_length_le (by omega), spl_u8]
  congr 1
  simp [splB, hl, hr, zer]
theorem two_isB {l r : List Int} (hl : isB l) (hr : isB r) : isB (1 :: (l ++ r)) := by
  intro x hx
  rcases List.mem_cons.1 hx with rfl | hx
  · omega
  · exact (hl.append hr) x hx

set_option maxRecDepth 100000 in
set_option maxHeartbeats 2000000 in
theorem node_any (l r : List Int) (w : World) (hl : l.length = 32) (hlb : isB l) (hr : r.length = 32) (hrb : isB r) (hk : KT w) :
    Calls Tryd.prog 47 #[.agg (u8s l).toArray, .agg (u8s r).toArray] w fun e w' => e = .returned (.agg (u8s (nd l r)).toArray) ∧ Below w.heap.size w w' := by
  have HL := hide hl
  have HR := hide hr
  have HLB := hide hlb
  have HRB := hide hrb
  have HK := hide hk
  have HML := hide (show (u8s (nd l r)).length = 32 by rw [u8s_length, nd_length])
  have H65 := hide (show (1 :: (l ++ r)).length = 65 by simp [hl, hr])
  have E1 := hide (node_1 l hl)
  have E2 := hide (node_2 l r hl hr)
  clear hl hr hlb hrb hk
  go_enter Tryd.func47, Tryd.ntmps47
  go_wp2_with (refine step_box rfl rfl ?_)
  intro w1 g2 hr1 hl1 hb1
  have G2 := hide hr1
  clear hr1
  go_wp2_with (refine step_box rfl rfl ?_)
  intro w2 g3 hr2 hl2 hb2
  have G3 := hide hr2
  have G22 := hide (G2.out.below hb2 G2.out.lt)
  clear hr2
  go_wp2_with (refine step_alloc zD rfl ?_)
  intro w3 g4 hr3 hl3 hb3
  have G4 := hide hr3
  have G33 := hide (G3.out.below hb3 G3.out.lt)
  have G23 := hide (G22.out.below hb3 G22.out.lt)
  clear hr3
  go_wp2_with (refine step_alloc z65 rfl ?_)
  intro w4 g5 hr4 hl4 hb4
  have G44 := hide (G4.out.below hb4 G4.out.lt)
  have G34 := hide (G33.out.below hb4 G33.out.lt)
  have G24 := hide (G23.out.below hb4 G23.out.lt)
  have G5 := hide hr4
  have B4 := hide (((hb1.trans (hb2.mono hb1.size)).trans (hb3.mono (Nat.le_trans hb1.size hb2.size))).trans (hb4.mono (Nat.le_trans (Nat.le_trans hb1.size hb2.size) hb3.size)))
  have n25 : g2 ≠ g5 := by have := G23.out.lt; omega
  have n35 : g3 ≠ g5 := by have := G33.out.lt; omega
  have n45 : g4 ≠ g5 := by have := G4.out.lt; omega
  have hw5 : w.heap.size ≤ g5 := Nat.le_trans (Nat.le_trans (Nat.le_trans hb1.size hb2.size) hb3.size) hl4
  have hw4 : w.heap.size ≤ g4 := Nat.le_trans (Nat.le_trans hb1.size hb2.size) hl3
  have hcell : w4.cell? ⟨g5, 0, none⟩ = some (.int .u8 0) := by rw [G5.out.cell]; rfl
  have hfree := G5.out.free 0
  have hs1 := slice65_1 g5
  have hs2 := slice65_33 g5
  have hs3 := slice65 g5
  have hd2 := slice_Dh g2
  have hd3 := slice_Dh g3
  clear hr4 hb1 hb2 hb3 hb4 G2 G22 G23 G3 G33 G4
  go_wp2_with fail
  have hbut5 := But.setCell w4 g5 0 (.int .u8 1)
  have hg5 := G5.out.set 0 (.int .u8 1)
  revert hbut5 hg5
  generalize w4.setCell ⟨g5, 0, none⟩ (.int .u8 1) = w5
  intro hbut5 hg5
  have B5 := hide (B4.out.trans (hbut5.below hw5))
  have G55 := hide hg5
  have G45 := hide (G44.out.but hbut5 n45)
  have G35 := hide (G34.out.but hbut5 n35)
  have G25 := hide (G24.out.but hbut5 n25)
  have SL := hide ((G25.out.sl0 HLB.out (by rw [HL.out]; omega)).below ((Below.refl _ _).drew))
  rw [HL.out] at SL
  clear hbut5 hg5 hcell hfree G5 G44 G34 G24 B4
  go_region_law (refine rstep_copy rfl rfl rfl rfl SL.out g5 1 32 (by omega) (by exact G55.out) (fun _ => rfl) (by simp [u8s_length, zer_length]) ?_; intro w6 hg6 hbut6)
  rw [E1.out] at hg6
  have B6 := hide ((B5.out.drew).trans (hbut6.below hw5))
  have G56 := hide hg6
  have G46 := hide ((G45.out.below ((Below.refl _ _).drew) G45.out.lt).but hbut6 n45)
  have G36 := hide ((G35.out.below ((Below.refl _ _).drew) G35.out.lt).but hbut6 n35)
  have SR := hide ((G36.out.sl0 HRB.out (by rw [HR.out]; omega)).below ((Below.refl _ _).drew))
  rw [HR.out] at SR
  have H66 := hide (show (u8s (1 :: (l ++ zer 32))).length = 65 by rw [u8s_length]; simp [HL.out, zer])
  clear hg6 hbut6 G55 G45 G35 G25 SL B5
  go_wp2_with fail
  go_region_law (refine rstep_copy rfl rfl rfl rfl SR.out g5 33 32 (by omega) (by exact G56.out) (fun _ => rfl) (by rw [H66.out]; omega) ?_; intro w7 hg7 hbut7)
  rw [E2.out] at hg7
  have B7 := hide ((B6.out.drew).trans (hbut7.below hw5))
  have G47 := hide ((G46.out.below ((Below.refl _ _).drew) G46.out.lt).but hbut7 n45)
  have S7 := hide (hg7.sl0 (two_isB HLB.out HRB.out) (by rw [H65.out]; omega))
  rw [H65.out] at S7
  clear hg7 hbut7 G56 G46 G36 SR B6
  go_wp2_with fail
  refine (sum_any _ _ _ (1 :: (l ++ r)) _ S7.out (HK.out.below B7.out HK.out.lt)).mono ?_
  rintro e w8 ⟨rfl, hb8⟩
  have EL : Hid (dg bL 0 (1 :: (l ++ r)) = nd l r) := hide rfl
  rw [EL.out]
  have G48 := hide (G47.out.below hb8 G47.out.lt)
  go_wp2_with (refine step_storeA wD rfl rfl rfl G48.out HML.out (One.u8 _) rfl ?_; intro w9 hg9 hbut9)
  refine bodyPost_ret (results_wide rfl wD _ _ rfl hg9 HML.out) rfl ⟨rfl, ?_⟩
  exact (B7.out.trans (hb8.mono B7.out.size)).trans (hbut9.below hw4)

section
variable {dst : Option Tmp} {ty : TypeId} {pos : String} {aft : Array Edge} {gd : Option (Nat × Bool)} {a : Act} {w : World} {K : Act → World → Prop} {Q : Exit → Act → World → Prop}
theorem build_oneN (q : Int) (w : World) : (Instr.buildSlice 36 1 #[(0, .int .u8 q)]).run Tryd.prog w = .ok (.slice (some ⟨w.heap.size, 0, none⟩) 1 1) (w.alloc (.cells #[.int .u8 q] 5)) := by kernel_rfl
set_option maxRecDepth 100000 in
theorem wp_oneO {x : Operand} {q : Int} (hx : a.eval x = .int .u8 q) (h : ∀ w1 g, Own w1 w.heap.size (.slice (some ⟨g, 0, none⟩) 1 1) [q] → Below w.heap.size w w1 → K (a.put dst (.slice (some ⟨g, 0, none⟩) 1 1)) w1) :
    Oper.wp Tryd.prog ⟨dst, .buildSlice 36 1 #[(0, x)], ty, pos, aft, gd⟩ a w K Q := by
  refine wp_runV (.slice (some ⟨w.heap.size, 0, none⟩) 1 1) (w.alloc (.cells #[.int .u8 q] 5)) ?_ (h _ _ (own_one w q) ((Below.refl _ _).alloc (Nat.le_refl _) _))
  unfold execOp
  simp only [List.map_toArray, List.map_cons, List.map_nil, hx]
  simp only [Sem.run_bind, build_oneN, Result.andThen_ok, Sem.run_pure]
end
set_option maxRecDepth 100000 in
set_option maxHeartbeats 2000000 in
theorem nodeR_any (l r : List Int) (w : World) (hl : l.length = 32) (hlb : isB l) (hr : r.length = 32) (hrb : isB r) :
    Calls Tryd.prog 51 #[.agg (u8s l).toArray, .agg (u8s r).toArray] w fun e w' => e = .returned (.agg (u8s (nd l r)).toArray) ∧ Below w.heap.size w w' := by
  have HL := hide hl
  have HR := hide hr
  have HLB := hide hlb
  have HRB := hide hrb
  have HML := hide (show (u8s (nd l r)).length = 32 by rw [u8s_length, nd_length])
  have H33 := hide (show ([1] ++ l).length = 33 by simp [hl])
  have H65 := hide (show (([1] ++ l) ++ r).length = 65 by simp [hl, hr])
  clear hl hr hlb hrb
  go_enter Tryd.func51, Tryd.ntmps51
  go_wp2_with (refine step_box rfl rfl ?_)
  intro w1 g2 hr1 hl1 hb1
  have G2 := hide hr1
  clear hr1
  go_wp2_with (refine step_box rfl rfl ?_)
  intro w2 g3 hr2 hl2 hb2
  have G3 := hide hr2
  have G22 := hide (G2.out.below hb2 G2.out.lt)
  clear hr2
  go_wp2_with (refine step_alloc zD rfl ?_)
  intro w3 g4 hr3 hl3 hb3
  have G4 := hide hr3
  have SR := hide ((G3.out.below hb3 G3.out.lt).sl0 HRB.out (by rw [HR.out]; omega))
  have SL := hide ((G22.out.below hb3 G22.out.lt).sl0 HLB.out (by rw [HL.out]; omega))
  rw [HL.out] at SL
  rw [HR.out] at SR
  have B3 := hide ((hb1.trans (hb2.mono hb1.size)).trans (hb3.mono (Nat.le_trans hb1.size hb2.size)))
  have hw4 : w.heap.size ≤ g4 := Nat.le_trans (Nat.le_trans hb1.size hb2.size) hl3
  clear hr3 hb1 hb2 hb3 G2 G22 G3 hl1 hl2 hl3
  go_wp2_with fail
  refine wp_region_noPanic ?_
  have B0 := hide ((Below.refl w3.heap.size w3).drew)
  refine wp_region_held_drew (S := fun v : World => True) (by kernel_rfl) trivial (fun hHeld => ?_)
  refine takeH 1 6 (.slice (some ⟨g2, 0, none⟩) 32 32) hHeld rfl rfl (by kernel_rfl) (by kernel_rfl) (by kernel_rfl) (fun _ _ _ h => h) (Or.inl ⟨by rfl, fun w _ => run_op rfl (slice_Dh g2 w)⟩) ?_
  simp only [Act.put, List.setIfInBounds_toArray, List.set_cons_zero, List.set_cons_succ]
  refine takeH 3 8 (.slice (some ⟨g3, 0, none⟩) 32 32) hHeld rfl rfl (by kernel_rfl) (by kernel_rfl) (by kernel_rfl) (fun _ _ _ h => h) (Or.inl ⟨by rfl, fun w _ => run_op rfl (slice_Dh g3 w)⟩) ?_
  simp only [Act.put, List.setIfInBounds_toArray, List.set_cons_zero, List.set_cons_succ]
  refine wpAnyH_ready (rs := [0]) (by kernel_rfl) (by simp) (AllReadyH.cons rfl (fun K hK => ?_) AllReadyH.nil)
  rw [if_pos (by rfl)]
  refine wp_oneO rfl ?_
  intro v1 gq ho1 hbq
  have B1 := hide (B0.out.trans (hbq.mono B0.out.size))
  refine hK.out _ _ trivial (fun hHeld => ?_)
  clear hK K
  simp only [Act.put]
  refine wpAnyH_ready (rs := [2]) (by kernel_rfl) (by simp) (AllReadyH.cons rfl (fun K hK => ?_) AllReadyH.nil)
  rw [if_pos (by rfl)]
  refine wp_appendB rfl rfl rfl ho1 (SL.out.below B1.out) (by simp) hbq.size ?_
  intro u2 v2 ho2 hg2 hn2
  have B2 := hide (B1.out.trans (Below.of_grown hg2 (Nat.le_trans B0.out.size hbq.size) (fun k hk => Nat.le_trans B0.out.size (ho1.lt k hk))))
  have hn2' : u2 ≠ .slice none 0 0 := fun e => by have e2 := (hn2 e).1; cases e2
  refine hK.out _ _ trivial (fun hHeld => ?_)
  clear hK K
  simp only [Act.put]
  refine wpAnyH_ready (rs := [4]) (by kernel_rfl) (by simp) (AllReadyH.cons rfl (fun K hK => ?_) AllReadyH.nil)
  rw [if_pos (by rfl)]
  refine wp_appendB rfl rfl rfl ho2 (SR.out.below B2.out) (by rw [H33.out]; omega) (Nat.le_trans hbq.size (by have := hg2.size; omega)) ?_
  intro u3 v3 ho3 hg3 hn3
  have B3a := hide (B2.out.trans (Below.of_grown hg3 B2.out.size (fun k hk => Nat.le_trans B0.out.size (ho2.lt k hk))))
  have hn3' : u3 ≠ .slice none 0 0 := fun e => hn2' (hn3 e).1
  obtain ⟨gi, ci, ei, _, hsi⟩ := ho3.sl (((show isB [1] by intro y hy; simp at hy; omega).append HLB.out).append HRB.out) (by rw [H65.out]; omega) hn3'
  subst ei
  rw [H65.out] at hsi ⊢
  have SI := hide hsi
  clear ho1 hbq ho2 hg2 hn2 hn2' ho3 hg3 hn3 hn3' hsi
  refine hK.out _ _ trivial (fun hHeld => ?_)
  clear hK K
  simp only [Act.put]
  refine wpAnyH_ready (rs := [5]) (by kernel_rfl) (by simp) (AllReadyH.cons rfl (fun K hK => ?_) AllReadyH.nil)
  rw [if_pos (by rfl)]
  go_simp
  refine (sumR_any _ _ _ (([1] ++ l) ++ r) _ SI.out (by omega)).mono ?_
  rintro e v4 ⟨rfl, hb4⟩
  have EL : Hid (dg bL 0 (([1] ++ l) ++ r) = nd l r) := hide (by unfold nd; simp)
  rw [EL.out]
  have B4 := hide (B3a.out.trans (hb4.mono B3a.out.size))
  refine hK.out _ _ (trivial) (fun hHeld => ?_)
  clear hK K
  refine wpAnyH_ready (rs := [6]) (by kernel_rfl) (by simp) (AllReadyH.cons rfl (fun K hK => ?_) AllReadyH.nil)
  rw [if_pos (by rfl)]
  refine wp_storeW wD rfl rfl rfl (G4.out.below B4.out G4.out.lt) HML.out (One.u8 _) (by simp [u8s_length, zer_length]) ?_
  intro v5 hgs hbuts
  refine hK.out _ _ trivial (fun hHeld => ?_)
  clear hK K
  simp only [Act.put]
  refine wpAnyH_done (by kernel_rfl) ?_ _
  refine NoPanic.normal ?_
  clear hHeld
  have EZ : Hid (spl (u8s (zer 32)) (u8s (nd l r)) 0 = u8s (nd l r)) := hide (by
    unfold spl
    rw [List.drop_of_length_le (by rw [HML.out, u8s_length, zer_length]; omega)]
    simp)
  rw [EZ.out] at hgs
  go_wp2
  refine bodyPost_ret (results_wide rfl wD _ _ rfl hgs HML.out) rfl ⟨rfl, ?_⟩
  exact (B3.out.trans (B4.out.mono B3.out.size)).trans (hbuts.below hw4)

end Go.Proofs.YtnlpgkfmjlljdaaDoor
