/-
  The program's and the document's digests of two.
-/
import Derived.Test.YtnlpgkfmjlljdabDoorTd
namespace Go.Proofs.YtnlpgkfmjlljdabDoor
open Go.RowKit
set_option linter.unusedVariables false

theorem z65 : Zeroed 85 (u8s (zer 65)) := fun _ _ _ _ _ _ _ => by kernel_rfl
theorem slice65_1 (g : Nat) (v : World) : (Instr.sliceAt 85 (.pointer (some ⟨g, 0, none⟩)) (some (.int .i64 1)) none none).run Tryd.prog v = .ok (.slice (some ⟨g, 1, none⟩) 64 64) v := by kernel_rfl
theorem slice65_33 (g : Nat) (v : World) : (Instr.sliceAt 85 (.pointer (some ⟨g, 0, none⟩)) (some (.int .i64 33)) none none).run Tryd.prog v = .ok (.slice (some ⟨g, 33, none⟩) 32 32) v := by kernel_rfl
theorem slice65 (g : Nat) (v : World) : (Instr.sliceAt 85 (.pointer (some ⟨g, 0, none⟩)) none none none).run Tryd.prog v = .ok (.slice (some ⟨g, 0, none⟩) 65 65) v := by kernel_rfl
theorem node_1 (l : List Int) (hl : l.length = 32) : spl ((u8s (zer 65)).set 0 (.int .u8 1)) (u8s (l.take 32)) 1 = u8s (1 :: (l ++ zer 32)) := by
  rw [u8s_set, List.take_of_length_le (by omega), spl_u8]
  congr 1
  simp [splB, hl, zer, List.replicate]
theorem node_2 (l r : List Int) (hl : l.length = 32) (hr : r.length = 32) : spl (u8s (1 :: (l ++ zer 32))) (u8s (r.take 32)) 33 = u8s (1 :: (l ++ r)) := by
  rw [List.take_of_length_le (by omega), spl_u8]
  congr 1
  simp [splB, hl, hr, zer]
theorem two_isB {l r : List Int} (hl : isB l) (hr : isB r) : isB (1 :: (l ++ r)) := by
  intro x hx
  rcases List.mem_cons.1 hx with rfl | hx
  · omega
  · exact (hl.append hr) x hx

set_option maxRecDepth 100000 in
set_option maxHeartbeats 2000000 in
theorem node_any (l r : List Int) (w : World) (hl : l.length = 32) (hlb : isB l) (hr : r.length = 32) (hrb : isB r) (hk : KT w) :
    Calls Tryd.prog 37 #[.agg (u8s l).toArray, .agg (u8s r).toArray] w fun e w' => e = .returned (.agg (u8s (nd l r)).toArray) ∧ Below w.heap.size w w' := by
  have HL := hide hl
  have HR := hide hr
  have HLB := hide hlb
  have HRB := hide hrb
  have HK := hide hk
  have HML := hide (show (u8s (nd l r)).length = 32 by rw [u8s_length, nd_length])
  have H65 := hide (show (1 :: (l ++ r)).length = 65 by simp [hl, hr])
  have E1 := hide (node_1 l hl)
  have E2 := hide (node_2 l r hl hr)
  clear hl hr hlb hrb hk
  go_enter Tryd.func37, Tryd.ntmps37
  go_wp2_with (refine step_box rfl rfl ?_)
  intro w1 g2 hr1 hl1 hb1
  have G2 := hide hr1
  clear hr1
  go_wp2_with (refine step_box rfl rfl ?_)
  intro w2 g3 hr2 hl2 hb2
  have G3 := hide hr2
  have G22 := hide (G2.out.below hb2 G2.out.lt)
  clear hr2
  go_wp2_with (refine step_alloc zD rfl ?_)
  intro w3 g4 hr3 hl3 hb3
  have G4 := hide hr3
  have G33 := hide (G3.out.below hb3 G3.out.lt)
  have G23 := hide (G22.out.below hb3 G22.out.lt)
  clear hr3
  go_wp2_with (refine step_alloc z65 rfl ?_)
  intro w4 g5 hr4 hl4 hb4
  have G44 := hide (G4.out.below hb4 G4.out.lt)
  have G34 := hide (G33.out.below hb4 G33.out.lt)
  have G24 := hide (G23.out.below hb4 G23.out.lt)
  have G5 := hide hr4
  have B4 := hide (((hb1.trans (hb2.mono hb1.size)).trans (hb3.mono (Nat.le_trans hb1.size hb2.size))).trans (hb4.mono (Nat.le_trans (Nat.le_trans hb1.size hb2.size) hb3.size)))
  have n25 : g2 ≠ g5 := by have := G23.out.lt; omega
  have n35 : g3 ≠ g5 := by have := G33.out.lt; omega
  have n45 : g4 ≠ g5 := by have := G4.out.lt; omega
  have hw5 : w.heap.size ≤ g5 := Nat.le_trans (Nat.le_trans (Nat.le_trans hb1.size hb2.size) hb3.size) hl4
  have hw4 : w.heap.size ≤ g4 := Nat.le_trans (Nat.le_trans hb1.size hb2.size) hl3
  have hcell : w4.cell? ⟨g5, 0, none⟩ = some (.int .u8 0) := by rw [G5.out.cell]; rfl
  have hfree := G5.out.free 0
  have hs1 := slice65_1 g5
  have hs2 := slice65_33 g5
  have hs3 := slice65 g5
  have hd2 := slice_Dh g2
  have hd3 := slice_Dh g3
  clear hr4 hb1 hb2 hb3 hb4 G2 G22 G23 G3 G33 G4
  go_wp2_with fail
  have hbut5 := But.setCell w4 g5 0 (.int .u8 1)
  have hg5 := G5.out.set 0 (.int .u8 1)
  revert hbut5 hg5
  generalize w4.setCell ⟨g5, 0, none⟩ (.int .u8 1) = w5
  intro hbut5 hg5
  have B5 := hide (B4.out.trans (hbut5.below hw5))
  have G55 := hide hg5
  have G45 := hide (G44.out.but hbut5 n45)
  have G35 := hide (G34.out.but hbut5 n35)
  have G25 := hide (G24.out.but hbut5 n25)
  have SL := hide ((G25.out.sl0 HLB.out (by rw [HL.out]; omega)).below ((Below.refl _ _).drew))
  rw [HL.out] at SL
  clear hbut5 hg5 hcell hfree G5 G44 G34 G24 B4
  go_region_law (refine rstep_copy rfl rfl rfl rfl SL.out g5 1 32 (by omega) (by exact G55.out) (fun _ => rfl) (by simp [u8s_length, zer_length]) ?_; intro w6 hg6 hbut6)
  rw [E1.out] at hg6
  have B6 := hide ((B5.out.drew).trans (hbut6.below hw5))
  have G56 := hide hg6
  have G46 := hide ((G45.out.below ((Below.refl _ _).drew) G45.out.lt).but hbut6 n45)
  have G36 := hide ((G35.out.below ((Below.refl _ _).drew) G35.out.lt).but hbut6 n35)
  have SR := hide ((G36.out.sl0 HRB.out (by rw [HR.out]; omega)).below ((Below.refl _ _).drew))
  rw [HR.out] at SR
  have H66 := hide (show (u8s (1 :: (l ++ zer 32))).length = 65 by rw [u8s_length]; simp [HL.out, zer])
  clear hg6 hbut6 G55 G45 G35 G25 SL B5
  go_wp2_with fail
  go_region_law (refine rstep_copy rfl rfl rfl rfl SR.out g5 33 32 (by omega) (by exact G56.out) (fun _ => rfl) (by rw [H66.out]; omega) ?_; intro w7 hg7 hbut7)
  rw [E2.out] at hg7
  have B7 := hide ((B6.out.drew).trans (hbut7.below hw5))
  have G47 := hide ((G46.out.below ((Below.refl _ _).drew) G46.out.lt).but hbut7 n45)
  have S7 := hide (hg7.sl0 (two_isB HLB.out HRB.out) (by rw [H65.out]; omega))
  rw [H65.out] at S7
  clear hg7 hbut7 G56 G46 G36 SR B6
  go_wp2_with fail
  refine (sum_any _ _ _ (1 :: (l ++ r)) _ S7.out (HK.out.below B7.out HK.out.lt)).mono ?_
  rintro e w8 ⟨rfl, hb8⟩
  have EL : Hid (dg bL 0 (1 :: (l ++ r)) = nd l r) := hide rfl
  rw [EL.out]
  have G48 := hide (G47.out.below hb8 G47.out.lt)
  go_wp2_with (refine step_storeA wD rfl rfl rfl G48.out HML.out (One.u8 _) rfl ?_; intro w9 hg9 hbut9)
  refine bodyPost_ret (results_wide rfl wD _ _ rfl hg9 HML.out) rfl ⟨rfl, ?_⟩
  exact (B7.out.trans (hb8.mono B7.out.size)).trans (hbut9.below hw4)

section
variable {dst : Option Tmp} {ty : TypeId} {pos : String} {aft : Array Edge} {gd : Option (Nat × Bool)} {a : Act} {w : World} {K : Act → World → Prop} {Q : Exit → Act → World → Prop}
theorem build_oneN (q : Int) (w : World) : (Instr.buildSlice 43 1 #[(0, .int .u8 q)]).run Tryd.prog w = .ok (.slice (some ⟨w.heap.size, 0, none⟩) 1 1) (w.alloc (.cells #[.int .u8 q] 5)) := by kernel_rfl
set_option maxRecDepth 100000 in
theorem wp_oneO {x : Operand} {q : Int} (hx : a.eval x = .int .u8 q) (h : ∀ w1 g, Own w1 w.heap.size (.slice (some ⟨g, 0, none⟩) 1 1) [q] → Below w.heap.size w w1 → K (a.put dst (.slice (some ⟨g, 0, none⟩) 1 1)) w1) :
    Oper.wp Tryd.prog ⟨dst, .buildSlice 43 1 #[(0, x)], ty, pos, aft, gd⟩ a w K Q := by
  refine wp_runV (.slice (some ⟨w.heap.size, 0, none⟩) 1 1) (w.alloc (.cells #[.int .u8 q] 5)) ?_ (h _ _ (own_one w q) ((Below.refl _ _).alloc (Nat.le_refl _) _))
  unfold execOp
  simp only [List.map_toArray, List.map_cons, List.map_nil, hx]
  simp only [Sem.run_bind, build_oneN, Result.andThen_ok, Sem.run_pure]
end

end Go.Proofs.YtnlpgkfmjlljdabDoor
