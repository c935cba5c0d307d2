/-
  Texts one behind the other: VuLaw.
-/
import Derived.Test.YtdggooanpamoeaaDoorPkA

/-
  The walk of VerifyTurned.
-/
namespace Go.Proofs.YtdggooanpamoeaaDoor
open Go.RowKit
set_option linter.unusedVariables false
set_option linter.unusedSimpArgs false

/-- The cells of a turn. -/
def tk (p y : Int) : List Value := [.int .i64 p, .int .u8 y]
theorem Blk.turn {w : World} {g : Nat} {t : TypeId} {p y : Int} (h : Blk w g t (tk p y)) : w.cell? ⟨g, 0, none⟩ = some (.int .i64 p) ∧ w.cell? ⟨g, 1, none⟩ = some (.int .u8 y) := ⟨by rw [h.cell]; rfl, by rw [h.cell]; rfl⟩
theorem hvT : (hvL 2 0 5).length = 3 := by decide +kernel
theorem lenT (w : World) : Calls Tryd.prog 18 #[.int .i64 2, .int .i64 5] w fun r w' => r = .returned (.tuple #[.int .i64 3, .int .i64 0]) ∧ Below w.heap.size w w' := by
  have := length_ok 2 5 w (by omega) (by omega)
  rwa [hvT] at this
theorem turn_none (a : Option Addr) (l cap : Nat) (i pl y : Int) (w : World) (h : l = 0 ∨ y = 0) :
    Calls Tryd.prog 6 #[.slice a l cap, .int .i64 i, .agg #[.int .i64 pl, .int .u8 y]] w fun e w' => e = .returned (.bool true) ∧ Below w.heap.size w w' := by
  by_cases h0 : l = 0
  · subst h0
    go_enter Tryd.func6, Tryd.ntmps6
    go_wp2_with (refine step_box (cs := tk pl y) rfl rfl ?_)
    intro w1 g5 hr1 hl1 hb1
    obtain ⟨c0, c1⟩ := hr1.turn
    clear hr1
    go_wp2
    go_ret
    exact ⟨rfl, hb1⟩
  · obtain rfl : y = 0 := by rcases h with h | h; exact absurd h h0; exact h
    have h0' : ((l : Int) == 0) = false := by simp; omega
    go_enter Tryd.func6, Tryd.ntmps6
    go_wp2_with (refine step_box (cs := tk pl 0) rfl rfl ?_)
    intro w1 g5 hr1 hl1 hb1
    obtain ⟨c0, c1⟩ := hr1.turn
    clear hr1
    go_wp2
    go_ret
    exact ⟨rfl, hb1⟩
/-- What stands behind the turn: the leaf and the proof. -/
structure TU (w W : World) (g10 : Nat) (ap : Option Addr) (q cp : Nat) (X lf : List Int) : Prop where
  ds : Ds W ap q cp X
  g : Blk W g10 26 (u8s lf)
  bel : Below w.heap.size w W
theorem TU.below {w W W' : World} {g10 : Nat} {ap : Option Addr} {q cp : Nat} {X lf : List Int} (h : TU w W g10 ap q cp X lf) (hb : Below W.heap.size W W') : TU w W' g10 ap q cp X lf := ⟨h.ds.below hb, h.g.on hb, on_below h.bel hb⟩

set_option maxRecDepth 100000 in
set_option maxHeartbeats 8000000 in
theorem turn_walk (a : Option Addr) (l cap : Nat) (xs : List Int) (av pl y : Int) (w : World) (hs : Ds w a l cap xs) (hc : cap ≤ 4398046510976) (hav : (Lit.int .i64 av).wf = true) (hpl : (Lit.int .i64 pl).wf = true) (hy : 0 ≤ y ∧ y ≤ 255) (hk : KT w) :
    Calls Tryd.prog 6 #[.slice a l cap, .int .i64 av, .agg #[.int .i64 pl, .int .u8 y]] w fun e w' => e = .returned (.bool true) ∧ Below w.heap.size w w' := by
  by_cases h0 : l = 0 ∨ y = 0
  · exact turn_none a l cap av pl y w h0
  have hy0 : 0 < y ∧ y ≤ 255 := by omega
  have hl0 : 0 < l := by omega
  have hcap := hs.hcap
  obtain ⟨b, o, rfl⟩ := hs.place (by omega)
  obtain ⟨i, _, hi2, hwi⟩ := within_any av 0 (l - 1) (by omega) (by omega) hav
  have hil : i < l := by omega
  have hxs : sub xs 0 l = xs := by unfold sub; rw [Nat.mul_zero, List.drop_zero, List.take_of_length_le (by have := hs.hlen; omega)]
  obtain ⟨p1, p2⟩ := path_root hs.hlen hs.hbyte (by omega) hil (Nat.le_refl l)
  rw [hxs] at p1 p2
  have hq9 := hvL_few (Nat.zero_le i) (show i < 0 + l by omega) (show l ≤ 281474976710656 by omega)
  have hPB : isB (path xs i) := (path_bd l l i xs (Nat.le_refl _) (by omega) hs.hlen (by omega) hs.hbyte hil).2
  have EE := hide (show inE l (i : Int) (l : Int) = 0 by unfold inE; rw [if_neg (by omega)])
  have EP := hide (show inP xs l (i : Int) (l : Int) = path xs i by unfold inP; rw [if_neg (by omega)]; simp [hxs])
  obtain ⟨q, hq⟩ : ∃ q, q = (hvL i 0 l).length := ⟨_, rfl⟩
  rw [← hq] at p1 hq9
  obtain ⟨k, _, hkq, hwk⟩ := within_any pl 0 q (by omega) (by omega) hpl
  obtain ⟨j, hj, hj2⟩ := and31 pl
  have hDL := dat_length hs.hlen hil
  have hDB := dat_isB hs.hbyte i
  obtain ⟨RX, hRX⟩ : ∃ R, root xs = R := ⟨_, rfl⟩
  have HRX := hide hRX
  have HRL := hide (show RX.length = 32 by rw [← hRX]; exact root_length hs.hlen hs.hbyte)
  have HRT : Hid (∀ v : World, Below w.heap.size w v → Calls Tryd.prog 22 #[.slice (some ⟨b, o, none⟩) l cap] v fun e w' => e = .returned (.agg (u8s RX).toArray) ∧ Below v.heap.size v w') := hide fun v hv => by
    rw [← hRX]; exact root_any l _ l cap xs v (Nat.le_refl _) (hs.below hv) (hk.below hv hk.lt)
  have HS := hide hs
  have HK := hide hk
  have HWI := hide hwi
  have HWK := hide hwk
  have HP1 := hide p1
  have HPB := hide hPB
  have HDL := hide hDL
  have HDB := hide hDB
  have HDU0 := hide (show (u8s (dat xs i)).length = 32 by rw [u8s_length, hDL])
  have HJ := hide hj2
  have HQ0 := hide hq
  have hl1' : (l : Int) - 1 = ((l - 1 : Nat) : Int) := by omega
  have HL1 := hide hl1'
  have hat := d_at b o l cap i (i : Int) rfl hil
  have h0' : ((l : Int) == 0) = false := by simp; omega
  have hy1 : (y == 0) = false := by simp; omega
  have hl9 : l ≤ 4398046510976 := by omega
  clear hs hk hwi hwk p1 p2 hPB hDL hDB hj2 hq hl1' hRX hav hpl h0 hc hxs
  go_enter Tryd.func6, Tryd.ntmps6
  go_wp2_with (refine step_box (cs := tk pl y) rfl rfl ?_)
  intro w1 g5 hr1 hl1 hb1
  have G5 := hide hr1
  have B1 := hide hb1
  obtain ⟨c0, c1⟩ := hr1.turn
  clear hr1 hb1
  go_wp2_with fail
  rw [HL1.out]
  refine (HWI.out _).mono ?_
  rintro r w2 ⟨rfl, rfl⟩
  go_wp2_with fail
  refine (incl_any _ _ _ xs (i : Int) (l : Int) _ (HS.out.below B1.out) (HK.out.below B1.out HK.out.lt)).mono ?_
  rintro r w3 ⟨v3, rfl, ⟨q3, ho3⟩, hb3⟩
  rw [EE.out]
  rw [EP.out] at ho3
  obtain rfl : q3 = q := by have := ho3.len; have := HP1.out; omega
  obtain ⟨ap, cp, rfl, hap, hbp⟩ := ho3.dsB7 HPB.out (by omega)
  have DP := hide hap
  have HBP := hide hbp
  have G53 := hide (G5.out.on hb3)
  have B3 := hide (on_below B1.out hb3)
  have HRG := hide ((HS.out.below B3.out).range i hil)
  have hw13 : w.heap.size ≤ w2.heap.size := B1.out.size
  have hg5lt := G5.out.lt
  clear ho3 hap hbp hb3 B1 G5 c0 c1
  go_wp2_with (first | (refine step_loadR wD rfl rfl _ HRG.out HDU0.out ?_) | (refine step_alloc zD rfl ?_))
  intro w4 g10 hr4 hl4 hb4
  have G10 := hide hr4
  clear hr4
  go_wp2_with (refine step_storeA wD rfl rfl rfl G10.out HDU0.out (One.u8 _) rfl ?_)
  intro w5 hg5 hbut5
  have X5 := hide (hb4.trans (hbut5.below hl4))
  have L5 := hide hg5
  have G55 := hide (G53.out.on X5.out)
  have DP5 := hide (DP.out.below X5.out)
  have HBP5 := hide (fun x (hx : ap = some x) => show w.heap.size ≤ x.block ∧ x.block ≠ g10 ∧ x.block ≠ g5 ∧ ∃ cs, Blk w5 x.block 26 cs from by
    obtain ⟨h1, cs, h2⟩ := HBP.out x hx
    have h3 := h2.lt
    exact ⟨by omega, by omega, by omega, cs, h2.on X5.out⟩)
  have h510 : g5 ≠ g10 := by have := G53.out.lt; omega
  have hw10 : w.heap.size ≤ g10 := Nat.le_trans B3.out.size hl4
  have B5 := hide (on_below B3.out X5.out)
  obtain ⟨c0, c1⟩ := G55.out.turn
  clear hg5 hbut5 hb4 G10 X5 DP HBP G53 B3 HRG hat
  go_wp2_with fail
  refine (HWK.out _).mono ?_
  rintro r w6 ⟨rfl, rfl⟩
  by_cases hkl : k = q3
  · subst hkl
    have hkk : ((k : Int) == (k : Int)) = true := by simp
    go_wp2_with fail
    have hlj : 0 ≤ (dat xs i).getD j 0 ∧ (dat xs i).getD j 0 ≤ 255 := by
      have hjl : j < (dat xs i).length := by rw [HDL.out]; exact hj
      rw [List.getD, List.getElem?_eq_getElem hjl]
      exact HDB.out _ (List.getElem_mem hjl)
    obtain ⟨hx1, hx2, hx3⟩ := xor_by _ y hlj hy0
    have hcell : ∀ v : World, Blk v g10 26 (u8s (dat xs i)) → v.cell? ⟨g10, 0 + j, none⟩ = some (.int .u8 ((dat xs i).getD j 0)) := fun v h => by
      rw [h.cell, Nat.zero_add]
      exact u8s_get _ _ (by rw [HDL.out]; exact hj)
    have HNE := hide (set_ne j _ (by rw [HDL.out]; exact hj) hx3)
    have HLFL := hide (show ((dat xs i).set j (bits .xor .u8 ((dat xs i).getD j 0) y)).length = 32 by rw [List.length_set, HDL.out])
    have HLFB := hide (isB_set HDB.out j _ ⟨hx1, hx2⟩)
    generalize (dat xs i).getD j 0 = lj at *
    obtain ⟨z, hz⟩ : ∃ z, bits .xor .u8 lj y = z := ⟨_, rfl⟩
    rw [hz] at HNE HLFL HLFB hx1 hx2
    have hj2 := HJ.out
    have hS : ∀ v : World, Blk v g5 52 (tk pl y) → v.cell? ⟨g5, 0, none⟩ = some (.int .i64 pl) ∧ v.cell? ⟨g5, 1, none⟩ = some (.int .u8 y) := fun v h => h.turn
    have G0 := hide (G55.out.on ((Below.refl _ _).drew))
    have L0 := hide (L5.out.on ((Below.refl _ _).drew))
    have D0 := hide (DP5.out.below ((Below.refl _ _).drew))
    have B0 := hide (B5.out.drew)
    refine wp_region_noPanic ?_
    refine wp_region_held_drew (S := fun v : World => v.cell? ⟨g5, 0, none⟩ = some (.int .i64 pl) ∧ v.cell? ⟨g5, 1, none⟩ = some (.int .u8 y)) (by kernel_rfl) (hS _ G0.out) (fun hHeld => ?_)
    refine takeH 0 51 (.pointer (some ⟨g5, 0, none⟩)) hHeld rfl rfl (by kernel_rfl) (by kernel_rfl) (by kernel_rfl) (fun _ _ _ h => h) (Or.inl ⟨by rfl, fun w _ => by go_simp⟩) ?_
    simp only [Act.put, List.setIfInBounds_toArray, List.set_cons_zero, List.set_cons_succ]
    refine takeH 1 52 (.int .i64 pl) hHeld rfl rfl (by kernel_rfl) (by kernel_rfl) (by kernel_rfl) (fun _ _ _ h => h) (Or.inl ⟨by rfl, fun w hw => by have hw' : w.cell? ⟨g5, 0, none⟩ = some (.int .i64 pl) := (fun h => h.1) hw; go_simp⟩) ?_
    simp only [Act.put, List.setIfInBounds_toArray, List.set_cons_zero, List.set_cons_succ]
    refine takeH 2 53 (.int .i64 (j : Int)) hHeld rfl rfl (by kernel_rfl) (by kernel_rfl) (by kernel_rfl) (fun _ _ _ h => h) (Or.inl ⟨by rfl, fun w _ => by go_simp⟩) ?_
    simp only [Act.put, List.setIfInBounds_toArray, List.set_cons_zero, List.set_cons_succ]
    refine takeH 3 54 (.pointer (some ⟨g5, 0, none⟩)) hHeld rfl rfl (by kernel_rfl) (by kernel_rfl) (by kernel_rfl) (fun _ _ _ h => h) (Or.inl ⟨by rfl, fun w _ => by go_simp⟩) ?_
    simp only [Act.put, List.setIfInBounds_toArray, List.set_cons_zero, List.set_cons_succ]
    refine takeH 4 55 (.int .i64 pl) hHeld rfl rfl (by kernel_rfl) (by kernel_rfl) (by kernel_rfl) (fun _ _ _ h => h) (Or.inl ⟨by rfl, fun w hw => by have hw' : w.cell? ⟨g5, 0, none⟩ = some (.int .i64 pl) := (fun h => h.1) hw; go_simp⟩) ?_
    simp only [Act.put, List.setIfInBounds_toArray, List.set_cons_zero, List.set_cons_succ]
    refine takeH 5 56 (.int .i64 (j : Int)) hHeld rfl rfl (by kernel_rfl) (by kernel_rfl) (by kernel_rfl) (fun _ _ _ h => h) (Or.inl ⟨by rfl, fun w _ => by go_simp⟩) ?_
    simp only [Act.put, List.setIfInBounds_toArray, List.set_cons_zero, List.set_cons_succ]
    refine takeH 6 57 (.pointer (some ⟨g10, 0 + j, none⟩)) hHeld rfl rfl (by kernel_rfl) (by kernel_rfl) (by kernel_rfl) (fun _ _ _ h => h) (Or.inl ⟨by rfl, fun w _ => run_op rfl ((index_D7 g10 0 j (j : Int) rfl hj) w)⟩) ?_
    simp only [Act.put, List.setIfInBounds_toArray, List.set_cons_zero, List.set_cons_succ]
    refine takeH 8 59 (.pointer (some ⟨g5, 1, none⟩)) hHeld rfl rfl (by kernel_rfl) (by kernel_rfl) (by kernel_rfl) (fun _ _ _ h => h) (Or.inl ⟨by rfl, fun w _ => by go_simp⟩) ?_
    simp only [Act.put, List.setIfInBounds_toArray, List.set_cons_zero, List.set_cons_succ]
    refine takeH 9 60 (.int .u8 y) hHeld rfl rfl (by kernel_rfl) (by kernel_rfl) (by kernel_rfl) (fun _ _ _ h => h) (Or.inl ⟨by rfl, fun w hw => by have hw' : w.cell? ⟨g5, 1, none⟩ = some (.int .u8 y) := (fun h => h.2) hw; go_simp⟩) ?_
    simp only [Act.put, List.setIfInBounds_toArray, List.set_cons_zero, List.set_cons_succ]
    refine wpAnyH_ready (rs := [7]) (by kernel_rfl) (by simp) (AllReadyH.cons rfl (fun K hK => ?_) AllReadyH.nil)
    rw [if_pos (by rfl)]
    refine wp_loadU rfl (hcell _ L0.out) ?_
    refine hK.out _ _ (hS _ G0.out) (fun hHeld => ?_)
    clear hK K
    simp only [Act.put, List.setIfInBounds_toArray, List.set_cons_zero, List.set_cons_succ]
    refine takeH 10 61 (.int .u8 z) hHeld rfl rfl (by kernel_rfl) (by kernel_rfl) (by kernel_rfl) (fun _ _ _ h => h) (Or.inl ⟨by rfl, fun w _ => by go_simp⟩) ?_
    simp only [Act.put, List.setIfInBounds_toArray, List.set_cons_zero, List.set_cons_succ]
    refine takeH 11 62 (.pointer (some ⟨g10, 0 + j, none⟩)) hHeld rfl rfl (by kernel_rfl) (by kernel_rfl) (by kernel_rfl) (fun _ _ _ h => h) (Or.inl ⟨by rfl, fun w _ => run_op rfl ((index_D7 g10 0 j (j : Int) rfl hj) w)⟩) ?_
    simp only [Act.put, List.setIfInBounds_toArray, List.set_cons_zero, List.set_cons_succ]
    refine wpAnyH_ready (rs := [12]) (by kernel_rfl) (by simp) (AllReadyH.cons rfl (fun K hK => ?_) AllReadyH.nil)
    rw [if_pos (by rfl)]
    refine wp_storeU rfl rfl (hcell _ L0.out) (L0.out.free _) ?_
    have hbut := But.setCell w6.drew g10 (0 + j) (.int .u8 z)
    have hset := L0.out.set (0 + j) (.int .u8 z)
    rw [u8s_set, Nat.zero_add] at hset
    rw [Nat.zero_add] at hbut ⊢
    refine hK.out _ _ (hS _ (G0.out.but hbut h510)) (fun hHeld => ?_)
    clear hK K
    simp only [Act.put]
    refine wpAnyH_done (by kernel_rfl) ?_ _
    refine NoPanic.normal ?_
    clear hHeld
    obtain ⟨lf, hlf⟩ : ∃ lf, (dat xs i).set j z = lf := ⟨_, rfl⟩
    rw [hlf] at hset HNE HLFL HLFB
    have HLL := HLFL
    have HLB := HLFB
    have HLU := hide (show (u8s lf).length = 32 by rw [u8s_length, HLL.out])
    have HQ := HQ0
    obtain ⟨X, hX⟩ : ∃ X, path xs i = X := ⟨_, rfl⟩
    have hpart : Part (hvL i 0 l) (path xs i) X (dat xs i) lf k 0 := .inl (Ne.symm HNE.out)
    have TT : Hid (TU w (w6.drew.setCell ⟨g10, j, none⟩ (.int .u8 z)) g10 ap k cp X lf) := hide ⟨by
      rw [← hX]
      exact ⟨D0.out.hcap, D0.out.hmax, D0.out.hnil, D0.out.sl.but hbut (fun _ x hx => (HBP5.out x hx).2.1)⟩, hset, B0.out.trans (hbut.below hw10)⟩
    revert TT
    generalize w6.drew.setCell ⟨g10, j, none⟩ (.int .u8 z) = WT
    intro TT
    clear hset hbut hX hlf HNE hcell hS L0 D0 G0 B0 hz
    go_wp2_with fail
    refine (lenT _).mono ?_
    rintro r u1 ⟨rfl, hu1⟩
    have T1 := hide (TT.out.below hu1)
    clear hu1 TT
    go_wp2_with (refine step_loadA wD rfl rfl T1.out.g HLU.out ?_)
    refine (root7_ok lf i l ap k cp X _ hil (by omega) HQ.out HLL.out HLB.out T1.out.ds (HK.out.below T1.out.bel HK.out.lt)).mono ?_
    rintro r u2 ⟨rfl, hu2⟩
    have T2 := hide (T1.out.below hu2)
    have HDD := hide (fu_length (hs := hvL i 0 l) (xs := X) HLL.out k)
    have HPT2 := hide hpart
    clear hu2 T1 hpart
    obtain ⟨D, hD⟩ : ∃ D, fu (hvL i 0 l) X lf k = D := ⟨_, rfl⟩
    rw [hD] at HDD ⊢
    have HDE := hide hD
    clear hD
    have HDU := hide (show (u8s D).length = 32 by rw [u8s_length, HDD.out])
    go_wp2_with (refine step_alloc zD rfl ?_)
    intro u3 g14 hr3 hl3 hb3
    have G14 := hide hr3
    clear hr3
    go_wp2_with (refine step_storeA wD rfl rfl rfl G14.out HDU.out (One.u8 _) rfl ?_)
    intro u4 hg4 hbut4
    have X4 := hide (hb3.trans (hbut4.below hl3))
    have T4 := hide (T2.out.below X4.out)
    have GD := hide hg4
    clear hg4 hbut4 hb3 G14 X4 T2 hl3
    have hu := aD.und
    have HI1 : Hid ((Tryd.prog.info? 26).map (·.size) = some (u8s D).length) := hide (by rw [wD.size, HDU.out])
    have HI2 : Hid ((Tryd.prog.info? 26).map (·.size) = some (u8s lf).length) := hide (by rw [wD.size, HLU.out])
    go_wp2_with fail
    refine wp_region_noPanic ?_
    refine wp_region_held_drew (S := fun v : World => Below u4.heap.size u4 v) (by kernel_rfl) ((Below.refl _ _).drew) (fun hHeld => ?_)
    refine takeH 0 100 (.int .i64 0) hHeld rfl rfl (by kernel_rfl) (by kernel_rfl) (by kernel_rfl) (fun _ _ _ h => h) (Or.inl ⟨by rfl, fun w _ => by go_simp⟩) ?_
    simp only [Act.put, List.setIfInBounds_toArray, List.set_cons_zero, List.set_cons_succ]
    refine takeH 1 101 (.bool true) hHeld rfl rfl (by kernel_rfl) (by kernel_rfl) (by kernel_rfl) (fun _ _ _ h => h) (Or.inl ⟨by rfl, fun w _ => by go_simp⟩) ?_
    simp only [Act.put, List.setIfInBounds_toArray, List.set_cons_zero, List.set_cons_succ]
    refine takeH 2 102 (.bool true) hHeld rfl rfl (by kernel_rfl) (by kernel_rfl) (by kernel_rfl) (fun _ _ _ h => h) (Or.inl ⟨by rfl, fun w _ => by go_simp⟩) ?_
    simp only [Act.put, List.setIfInBounds_toArray, List.set_cons_zero, List.set_cons_succ]
    refine takeH 3 103 (.agg (u8s D).toArray) hHeld rfl rfl (by kernel_rfl) (by kernel_rfl) (by kernel_rfl) (fun _ _ _ h => h) (yieldsIf_load_mid (by rfl) _ _ rfl g14 0 rfl _ _ (fun w h => (GD.out.on h).range 0 _ (by simp)) hu rfl HI1.out) ?_
    simp only [Act.put, List.setIfInBounds_toArray, List.set_cons_zero, List.set_cons_succ]
    refine takeH 4 104 (.slice (some ⟨b, o, none⟩) l cap) hHeld rfl rfl (by kernel_rfl) (by kernel_rfl) (by kernel_rfl) (fun _ _ _ h => h) (Or.inl ⟨by rfl, fun w _ => by go_simp⟩) ?_
    simp only [Act.put, List.setIfInBounds_toArray, List.set_cons_zero, List.set_cons_succ]
    have Y0 := hide (show Below u4.heap.size u4 u4.drew from (Below.refl _ _).drew)
    refine wpAnyH_ready (rs := [5]) (by kernel_rfl) (by simp) (AllReadyH.cons rfl (fun K hK => ?_) AllReadyH.nil)
    rw [if_pos (by rfl)]
    go_simp
    refine (HRT.out _ (on_below T4.out.bel Y0.out)).mono ?_
    rintro r v1 ⟨rfl, hv1⟩
    have Y1 := hide (on_below Y0.out hv1)
    refine hK.out _ _ (Y1.out) (fun hHeld => ?_)
    clear hK K
    by_cases hDR : D = RX
    · have HU1 : Hid ((!decide (D = RX)) = false) := hide (by simp [hDR])
      have HRE : Hid (fu (hvL i 0 l) X lf k = root xs) := hide (by rw [HDE.out, hDR, HRX.out])
      clear hDR
      refine takeH 6 106 (.bool false) hHeld rfl rfl (by kernel_rfl) (by kernel_rfl) (by kernel_rfl) (fun _ _ _ h => h) (Or.inl ⟨by rfl, fun v _ => run_neQ aD _ rfl rfl HDD.out HRL.out HU1.out⟩) ?_
      simp only [Act.put, List.setIfInBounds_toArray, List.set_cons_zero, List.set_cons_succ]
      refine takeH 7 107 (.bool false) hHeld rfl rfl (by kernel_rfl) (by kernel_rfl) (by kernel_rfl) (fun _ _ _ h => h) (Or.inl ⟨by rfl, fun w _ => by go_simp⟩) ?_
      simp only [Act.put, List.setIfInBounds_toArray, List.set_cons_zero, List.set_cons_succ]
      refine takeH 8 108 (.slice (some ⟨b, o, none⟩) l cap) hHeld rfl rfl (by kernel_rfl) (by kernel_rfl) (by kernel_rfl) (fun _ _ _ h => h) (Or.inl ⟨by rfl, fun w _ => by go_simp⟩) ?_
      simp only [Act.put, List.setIfInBounds_toArray, List.set_cons_zero, List.set_cons_succ]
      refine takeH 9 109 (.int .i64 (i : Int)) hHeld rfl rfl (by kernel_rfl) (by kernel_rfl) (by kernel_rfl) (fun _ _ _ h => h) (Or.inl ⟨by rfl, fun w _ => by go_simp⟩) ?_
      simp only [Act.put, List.setIfInBounds_toArray, List.set_cons_zero, List.set_cons_succ]
      refine takeH 10 110 (.agg (u8s lf).toArray) hHeld rfl rfl (by kernel_rfl) (by kernel_rfl) (by kernel_rfl) (fun _ _ _ h => h) (yieldsIf_load_mid (by rfl) _ _ rfl g10 0 rfl _ _ (fun w h => (T4.out.g.on h).range 0 _ (by simp)) hu rfl HI2.out) ?_
      simp only [Act.put, List.setIfInBounds_toArray, List.set_cons_zero, List.set_cons_succ]
      refine takeH 11 111 (.slice ap k cp) hHeld rfl rfl (by kernel_rfl) (by kernel_rfl) (by kernel_rfl) (fun _ _ _ h => h) (Or.inl ⟨by rfl, fun w _ => by go_simp⟩) ?_
      simp only [Act.put, List.setIfInBounds_toArray, List.set_cons_zero, List.set_cons_succ]
      refine wpAnyH_ready (rs := [12]) (by kernel_rfl) (by simp) (AllReadyH.cons rfl (fun K hK => ?_) AllReadyH.nil)
      rw [if_pos (by rfl)]
      go_simp
      refine (collides_any b o l cap xs i lf ap k cp X _ (HS.out.below (on_below T4.out.bel Y1.out)) (T4.out.ds.below Y1.out) hil (by omega) HQ.out HLL.out HLB.out (HK.out.below (on_below T4.out.bel Y1.out) HK.out.lt) HRE.out HPT2.out).mono ?_
      rintro r v2 ⟨rfl, hv2⟩
      have Y2 := hide (on_below Y1.out hv2)
      refine hK.out _ _ (Y2.out) (fun hHeld => ?_)
      clear hK K
      refine takeH 13 113 (.bool true) hHeld rfl rfl (by kernel_rfl) (by kernel_rfl) (by kernel_rfl) (fun _ _ _ h => h) (Or.inl ⟨by rfl, fun w _ => by go_simp⟩) ?_
      simp only [Act.put, List.setIfInBounds_toArray, List.set_cons_zero, List.set_cons_succ]
      refine takeH 14 114 (.bool true) hHeld rfl rfl (by kernel_rfl) (by kernel_rfl) (by kernel_rfl) (fun _ _ _ h => h) (Or.inl ⟨by rfl, fun w _ => by go_simp⟩) ?_
      simp only [Act.put, List.setIfInBounds_toArray, List.set_cons_zero, List.set_cons_succ]
      refine takeH 15 6 (.bool true) hHeld rfl rfl (by kernel_rfl) (by kernel_rfl) (by kernel_rfl) (fun _ _ _ h => h) (Or.inl ⟨by rfl, fun w _ => by go_simp⟩) ?_
      simp only [Act.put, List.setIfInBounds_toArray, List.set_cons_zero, List.set_cons_succ]
      refine wpAnyH_done (by kernel_rfl) ?_ _
      refine NoPanic.normal ?_
      clear hHeld hu
      go_wp2
      go_ret
      exact ⟨rfl, on_below T4.out.bel Y2.out⟩
    · have HU1 : Hid ((!decide (D = RX)) = true) := hide (by simp [hDR])
      clear hDR
      refine takeH 6 106 (.bool true) hHeld rfl rfl (by kernel_rfl) (by kernel_rfl) (by kernel_rfl) (fun _ _ _ h => h) (Or.inl ⟨by rfl, fun v _ => run_neQ aD _ rfl rfl HDD.out HRL.out HU1.out⟩) ?_
      simp only [Act.put, List.setIfInBounds_toArray, List.set_cons_zero, List.set_cons_succ]
      refine takeH 7 107 (.bool true) hHeld rfl rfl (by kernel_rfl) (by kernel_rfl) (by kernel_rfl) (fun _ _ _ h => h) (Or.inl ⟨by rfl, fun w _ => by go_simp⟩) ?_
      simp only [Act.put, List.setIfInBounds_toArray, List.set_cons_zero, List.set_cons_succ]
      refine takeH 8 108 undef hHeld rfl rfl (by kernel_rfl) (by kernel_rfl) (by kernel_rfl) (fun _ _ _ h => h) (Or.inr ⟨by rfl, rfl⟩) ?_
      simp only [Act.put, List.setIfInBounds_toArray, List.set_cons_zero, List.set_cons_succ]
      refine takeH 9 109 undef hHeld rfl rfl (by kernel_rfl) (by kernel_rfl) (by kernel_rfl) (fun _ _ _ h => h) (Or.inr ⟨by rfl, rfl⟩) ?_
      simp only [Act.put, List.setIfInBounds_toArray, List.set_cons_zero, List.set_cons_succ]
      refine takeH 10 110 undef hHeld rfl rfl (by kernel_rfl) (by kernel_rfl) (by kernel_rfl) (fun _ _ _ h => h) (Or.inr ⟨by rfl, rfl⟩) ?_
      simp only [Act.put, List.setIfInBounds_toArray, List.set_cons_zero, List.set_cons_succ]
      refine takeH 11 111 undef hHeld rfl rfl (by kernel_rfl) (by kernel_rfl) (by kernel_rfl) (fun _ _ _ h => h) (Or.inr ⟨by rfl, rfl⟩) ?_
      simp only [Act.put, List.setIfInBounds_toArray, List.set_cons_zero, List.set_cons_succ]
      refine takeH 12 112 undef hHeld rfl rfl (by kernel_rfl) (by kernel_rfl) (by kernel_rfl) (fun _ _ _ h => h) (Or.inr ⟨by rfl, rfl⟩) ?_
      simp only [Act.put, List.setIfInBounds_toArray, List.set_cons_zero, List.set_cons_succ]
      refine takeH 13 113 (.bool true) hHeld rfl rfl (by kernel_rfl) (by kernel_rfl) (by kernel_rfl) (fun _ _ _ h => h) (Or.inl ⟨by rfl, fun w _ => by go_simp⟩) ?_
      simp only [Act.put, List.setIfInBounds_toArray, List.set_cons_zero, List.set_cons_succ]
      refine takeH 14 114 (.bool true) hHeld rfl rfl (by kernel_rfl) (by kernel_rfl) (by kernel_rfl) (fun _ _ _ h => h) (Or.inl ⟨by rfl, fun w _ => by go_simp⟩) ?_
      simp only [Act.put, List.setIfInBounds_toArray, List.set_cons_zero, List.set_cons_succ]
      refine takeH 15 6 (.bool true) hHeld rfl rfl (by kernel_rfl) (by kernel_rfl) (by kernel_rfl) (fun _ _ _ h => h) (Or.inl ⟨by rfl, fun w _ => by go_simp⟩) ?_
      simp only [Act.put, List.setIfInBounds_toArray, List.set_cons_zero, List.set_cons_succ]
      refine wpAnyH_done (by kernel_rfl) ?_ _
      refine NoPanic.normal ?_
      clear hHeld hu
      go_wp2
      go_ret
      exact ⟨rfl, on_below T4.out.bel Y1.out⟩
  · have hkk : ((k : Int) == (q3 : Int)) = false := by simp; omega
    have hkl2 : k < q3 := by omega
    go_wp2_with fail
    obtain ⟨pb, po, rfl⟩ := DP5.out.place (by omega)
    obtain ⟨hpw, hp10, hp5, cs, hpblk⟩ := HBP5.out _ rfl
    simp only at hpw hp10 hp5 hpblk
    have HPK := hide (dat_length DP5.out.hlen hkl2)
    have HPKB := hide (dat_isB DP5.out.hbyte k)
    have hlj : 0 ≤ (dat (path xs i) k).getD j 0 ∧ (dat (path xs i) k).getD j 0 ≤ 255 := by
      have hjl : j < (dat (path xs i) k).length := by rw [HPK.out]; exact hj
      rw [List.getD, List.getElem?_eq_getElem hjl]
      exact HPKB.out _ (List.getElem_mem hjl)
    obtain ⟨hx1, hx2, hx3⟩ := xor_by _ y hlj hy0
    have hcell : ∀ v : World, Ds v (some ⟨pb, po, none⟩) q3 cp (path xs i) → v.cell? ⟨pb, po + 32 * k + j, none⟩ = some (.int .u8 ((dat (path xs i) k).getD j 0)) := fun v h => (h.range k hkl2) j _ (u8s_get _ _ (by rw [HPK.out]; exact hj))
    have HNE := hide (set_ne j _ (by rw [HPK.out]; exact hj) hx3)
    generalize (dat (path xs i) k).getD j 0 = lj at *
    obtain ⟨z, hz⟩ : ∃ z, bits .xor .u8 lj y = z := ⟨_, rfl⟩
    rw [hz] at HNE hx1 hx2
    rw [← dat_set (path xs i) k j z hj] at HNE
    have hj2 := HJ.out
    have hS : ∀ v : World, Blk v g5 52 (tk pl y) → v.cell? ⟨g5, 0, none⟩ = some (.int .i64 pl) ∧ v.cell? ⟨g5, 1, none⟩ = some (.int .u8 y) := fun v h => h.turn
    have G0 := hide (G55.out.on ((Below.refl _ _).drew))
    have L0 := hide (L5.out.on ((Below.refl _ _).drew))
    have D0 := hide (DP5.out.below ((Below.refl _ _).drew))
    have P0 := hide (hpblk.on ((Below.refl _ _).drew))
    have B0 := hide (B5.out.drew)
    refine wp_region_noPanic ?_
    refine wp_region_held_drew (S := fun v : World => v.cell? ⟨g5, 0, none⟩ = some (.int .i64 pl) ∧ v.cell? ⟨g5, 1, none⟩ = some (.int .u8 y)) (by kernel_rfl) (hS _ G0.out) (fun hHeld => ?_)
    refine takeH 0 63 (.slice (some ⟨pb, po, none⟩) q3 cp) hHeld rfl rfl (by kernel_rfl) (by kernel_rfl) (by kernel_rfl) (fun _ _ _ h => h) (Or.inl ⟨by rfl, fun w _ => by go_simp⟩) ?_
    simp only [Act.put, List.setIfInBounds_toArray, List.set_cons_zero, List.set_cons_succ]
    refine takeH 1 64 (.int .i64 (k : Int)) hHeld rfl rfl (by kernel_rfl) (by kernel_rfl) (by kernel_rfl) (fun _ _ _ h => h) (Or.inl ⟨by rfl, fun w _ => by go_simp⟩) ?_
    simp only [Act.put, List.setIfInBounds_toArray, List.set_cons_zero, List.set_cons_succ]
    refine takeH 2 65 (.pointer (some ⟨g5, 0, none⟩)) hHeld rfl rfl (by kernel_rfl) (by kernel_rfl) (by kernel_rfl) (fun _ _ _ h => h) (Or.inl ⟨by rfl, fun w _ => by go_simp⟩) ?_
    simp only [Act.put, List.setIfInBounds_toArray, List.set_cons_zero, List.set_cons_succ]
    refine takeH 3 66 (.int .i64 pl) hHeld rfl rfl (by kernel_rfl) (by kernel_rfl) (by kernel_rfl) (fun _ _ _ h => h) (Or.inl ⟨by rfl, fun w hw => by have hw' : w.cell? ⟨g5, 0, none⟩ = some (.int .i64 pl) := (fun h => h.1) hw; go_simp⟩) ?_
    simp only [Act.put, List.setIfInBounds_toArray, List.set_cons_zero, List.set_cons_succ]
    refine takeH 4 67 (.int .i64 (j : Int)) hHeld rfl rfl (by kernel_rfl) (by kernel_rfl) (by kernel_rfl) (fun _ _ _ h => h) (Or.inl ⟨by rfl, fun w _ => by go_simp⟩) ?_
    simp only [Act.put, List.setIfInBounds_toArray, List.set_cons_zero, List.set_cons_succ]
    refine takeH 5 68 (.slice (some ⟨pb, po, none⟩) q3 cp) hHeld rfl rfl (by kernel_rfl) (by kernel_rfl) (by kernel_rfl) (fun _ _ _ h => h) (Or.inl ⟨by rfl, fun w _ => by go_simp⟩) ?_
    simp only [Act.put, List.setIfInBounds_toArray, List.set_cons_zero, List.set_cons_succ]
    refine takeH 6 69 (.int .i64 (k : Int)) hHeld rfl rfl (by kernel_rfl) (by kernel_rfl) (by kernel_rfl) (fun _ _ _ h => h) (Or.inl ⟨by rfl, fun w _ => by go_simp⟩) ?_
    simp only [Act.put, List.setIfInBounds_toArray, List.set_cons_zero, List.set_cons_succ]
    refine takeH 7 70 (.pointer (some ⟨g5, 0, none⟩)) hHeld rfl rfl (by kernel_rfl) (by kernel_rfl) (by kernel_rfl) (fun _ _ _ h => h) (Or.inl ⟨by rfl, fun w _ => by go_simp⟩) ?_
    simp only [Act.put, List.setIfInBounds_toArray, List.set_cons_zero, List.set_cons_succ]
    refine takeH 8 71 (.int .i64 pl) hHeld rfl rfl (by kernel_rfl) (by kernel_rfl) (by kernel_rfl) (fun _ _ _ h => h) (Or.inl ⟨by rfl, fun w hw => by have hw' : w.cell? ⟨g5, 0, none⟩ = some (.int .i64 pl) := (fun h => h.1) hw; go_simp⟩) ?_
    simp only [Act.put, List.setIfInBounds_toArray, List.set_cons_zero, List.set_cons_succ]
    refine takeH 9 72 (.int .i64 (j : Int)) hHeld rfl rfl (by kernel_rfl) (by kernel_rfl) (by kernel_rfl) (fun _ _ _ h => h) (Or.inl ⟨by rfl, fun w _ => by go_simp⟩) ?_
    simp only [Act.put, List.setIfInBounds_toArray, List.set_cons_zero, List.set_cons_succ]
    refine takeH 10 73 (.pointer (some ⟨pb, po + 32 * k, none⟩)) hHeld rfl rfl (by kernel_rfl) (by kernel_rfl) (by kernel_rfl) (fun _ _ _ h => h) (Or.inl ⟨by rfl, fun w _ => run_op rfl ((d_at pb po q3 cp k (k : Int) rfl hkl2) w)⟩) ?_
    simp only [Act.put, List.setIfInBounds_toArray, List.set_cons_zero, List.set_cons_succ]
    refine takeH 11 74 (.pointer (some ⟨pb, po + 32 * k + j, none⟩)) hHeld rfl rfl (by kernel_rfl) (by kernel_rfl) (by kernel_rfl) (fun _ _ _ h => h) (Or.inl ⟨by rfl, fun w _ => run_op rfl ((index_D7 pb (po + 32 * k) j (j : Int) rfl hj) w)⟩) ?_
    simp only [Act.put, List.setIfInBounds_toArray, List.set_cons_zero, List.set_cons_succ]
    refine takeH 13 76 (.pointer (some ⟨g5, 1, none⟩)) hHeld rfl rfl (by kernel_rfl) (by kernel_rfl) (by kernel_rfl) (fun _ _ _ h => h) (Or.inl ⟨by rfl, fun w _ => by go_simp⟩) ?_
    simp only [Act.put, List.setIfInBounds_toArray, List.set_cons_zero, List.set_cons_succ]
    refine takeH 14 77 (.int .u8 y) hHeld rfl rfl (by kernel_rfl) (by kernel_rfl) (by kernel_rfl) (fun _ _ _ h => h) (Or.inl ⟨by rfl, fun w hw => by have hw' : w.cell? ⟨g5, 1, none⟩ = some (.int .u8 y) := (fun h => h.2) hw; go_simp⟩) ?_
    simp only [Act.put, List.setIfInBounds_toArray, List.set_cons_zero, List.set_cons_succ]
    refine takeH 16 79 (.pointer (some ⟨pb, po + 32 * k, none⟩)) hHeld rfl rfl (by kernel_rfl) (by kernel_rfl) (by kernel_rfl) (fun _ _ _ h => h) (Or.inl ⟨by rfl, fun w _ => run_op rfl ((d_at pb po q3 cp k (k : Int) rfl hkl2) w)⟩) ?_
    simp only [Act.put, List.setIfInBounds_toArray, List.set_cons_zero, List.set_cons_succ]
    refine wpAnyH_ready (rs := [12]) (by kernel_rfl) (by simp) (AllReadyH.cons rfl (fun K hK => ?_) AllReadyH.nil)
    rw [if_pos (by rfl)]
    refine wp_loadU rfl (hcell _ D0.out) ?_
    refine hK.out _ _ (hS _ G0.out) (fun hHeld => ?_)
    clear hK K
    simp only [Act.put, List.setIfInBounds_toArray, List.set_cons_zero, List.set_cons_succ]
    refine takeH 15 78 (.int .u8 z) hHeld rfl rfl (by kernel_rfl) (by kernel_rfl) (by kernel_rfl) (fun _ _ _ h => h) (Or.inl ⟨by rfl, fun w _ => by go_simp⟩) ?_
    simp only [Act.put, List.setIfInBounds_toArray, List.set_cons_zero, List.set_cons_succ]
    refine takeH 17 80 (.pointer (some ⟨pb, po + 32 * k + j, none⟩)) hHeld rfl rfl (by kernel_rfl) (by kernel_rfl) (by kernel_rfl) (fun _ _ _ h => h) (Or.inl ⟨by rfl, fun w _ => run_op rfl ((index_D7 pb (po + 32 * k) j (j : Int) rfl hj) w)⟩) ?_
    simp only [Act.put, List.setIfInBounds_toArray, List.set_cons_zero, List.set_cons_succ]
    refine wpAnyH_ready (rs := [18]) (by kernel_rfl) (by simp) (AllReadyH.cons rfl (fun K hK => ?_) AllReadyH.nil)
    rw [if_pos (by rfl)]
    refine wp_storeU rfl rfl (hcell _ D0.out) (P0.out.free _) ?_
    have hbut := But.setCell w6.drew pb (po + 32 * k + j) (.int .u8 z)
    refine hK.out _ _ (hS _ (G0.out.but hbut (Ne.symm hp5))) (fun hHeld => ?_)
    clear hK K
    simp only [Act.put]
    refine wpAnyH_done (by kernel_rfl) ?_ _
    refine NoPanic.normal ?_
    clear hHeld
    have hset := D0.out.set P0.out (32 * k + j) (by omega) z ⟨hx1, hx2⟩
    rw [← Nat.add_assoc] at hset
    obtain ⟨lf, hlf⟩ : ∃ lf, dat xs i = lf := ⟨_, rfl⟩
    have HLL := hide (show lf.length = 32 by rw [← hlf]; exact HDL.out)
    have HLB := hide (show isB lf by rw [← hlf]; exact HDB.out)
    have HLU := hide (show (u8s lf).length = 32 by rw [u8s_length, HLL.out])
    have HQ := HQ0
    obtain ⟨X, hX⟩ : ∃ X, (path xs i).set (32 * k + j) z = X := ⟨_, rfl⟩
    rw [hX] at hset HNE
    have hpart : Part (hvL i 0 l) (path xs i) X (dat xs i) lf q3 0 := .inr ⟨k, Nat.zero_le _, hkl2, HNE.out⟩
    have TT : Hid (TU w (w6.drew.setCell ⟨pb, po + 32 * k + j, none⟩ (.int .u8 z)) g10 (some ⟨pb, po, none⟩) q3 cp X lf) := hide ⟨hset, by rw [← hlf]; exact L0.out.but hbut (Ne.symm hp10), B0.out.trans (hbut.below hpw)⟩
    revert TT
    generalize w6.drew.setCell ⟨pb, po + 32 * k + j, none⟩ (.int .u8 z) = WT
    intro TT
    obtain ⟨ap, hap⟩ : ∃ ap : Option Addr, some ⟨pb, po, none⟩ = ap := ⟨_, rfl⟩
    rw [hap] at TT ⊢
    clear hset hbut hX hlf HNE hcell hS L0 D0 G0 B0 P0 hz hap
    go_wp2_with fail
    refine (lenT _).mono ?_
    rintro r u1 ⟨rfl, hu1⟩
    have T1 := hide (TT.out.below hu1)
    clear hu1 TT
    go_wp2_with (refine step_loadA wD rfl rfl T1.out.g HLU.out ?_)
    refine (root7_ok lf i l ap q3 cp X _ hil (by omega) HQ.out HLL.out HLB.out T1.out.ds (HK.out.below T1.out.bel HK.out.lt)).mono ?_
    rintro r u2 ⟨rfl, hu2⟩
    have T2 := hide (T1.out.below hu2)
    have HDD := hide (fu_length (hs := hvL i 0 l) (xs := X) HLL.out q3)
    have HPT2 := hide hpart
    clear hu2 T1 hpart
    obtain ⟨D, hD⟩ : ∃ D, fu (hvL i 0 l) X lf q3 = D := ⟨_, rfl⟩
    rw [hD] at HDD ⊢
    have HDE := hide hD
    clear hD
    have HDU := hide (show (u8s D).length = 32 by rw [u8s_length, HDD.out])
    go_wp2_with (refine step_alloc zD rfl ?_)
    intro u3 g14 hr3 hl3 hb3
    have G14 := hide hr3
    clear hr3
    go_wp2_with (refine step_storeA wD rfl rfl rfl G14.out HDU.out (One.u8 _) rfl ?_)
    intro u4 hg4 hbut4
    have X4 := hide (hb3.trans (hbut4.below hl3))
    have T4 := hide (T2.out.below X4.out)
    have GD := hide hg4
    clear hg4 hbut4 hb3 G14 X4 T2 hl3
    have hu := aD.und
    have HI1 : Hid ((Tryd.prog.info? 26).map (·.size) = some (u8s D).length) := hide (by rw [wD.size, HDU.out])
    have HI2 : Hid ((Tryd.prog.info? 26).map (·.size) = some (u8s lf).length) := hide (by rw [wD.size, HLU.out])
    go_wp2_with fail
    refine wp_region_noPanic ?_
    refine wp_region_held_drew (S := fun v : World => Below u4.heap.size u4 v) (by kernel_rfl) ((Below.refl _ _).drew) (fun hHeld => ?_)
    refine takeH 0 100 (.int .i64 0) hHeld rfl rfl (by kernel_rfl) (by kernel_rfl) (by kernel_rfl) (fun _ _ _ h => h) (Or.inl ⟨by rfl, fun w _ => by go_simp⟩) ?_
    simp only [Act.put, List.setIfInBounds_toArray, List.set_cons_zero, List.set_cons_succ]
    refine takeH 1 101 (.bool true) hHeld rfl rfl (by kernel_rfl) (by kernel_rfl) (by kernel_rfl) (fun _ _ _ h => h) (Or.inl ⟨by rfl, fun w _ => by go_simp⟩) ?_
    simp only [Act.put, List.setIfInBounds_toArray, List.set_cons_zero, List.set_cons_succ]
    refine takeH 2 102 (.bool true) hHeld rfl rfl (by kernel_rfl) (by kernel_rfl) (by kernel_rfl) (fun _ _ _ h => h) (Or.inl ⟨by rfl, fun w _ => by go_simp⟩) ?_
    simp only [Act.put, List.setIfInBounds_toArray, List.set_cons_zero, List.set_cons_succ]
    refine takeH 3 103 (.agg (u8s D).toArray) hHeld rfl rfl (by kernel_rfl) (by kernel_rfl) (by kernel_rfl) (fun _ _ _ h => h) (yieldsIf_load_mid (by rfl) _ _ rfl g14 0 rfl _ _ (fun w h => (GD.out.on h).range 0 _ (by simp)) hu rfl HI1.out) ?_
    simp only [Act.put, List.setIfInBounds_toArray, List.set_cons_zero, List.set_cons_succ]
    refine takeH 4 104 (.slice (some ⟨b, o, none⟩) l cap) hHeld rfl rfl (by kernel_rfl) (by kernel_rfl) (by kernel_rfl) (fun _ _ _ h => h) (Or.inl ⟨by rfl, fun w _ => by go_simp⟩) ?_
    simp only [Act.put, List.setIfInBounds_toArray, List.set_cons_zero, List.set_cons_succ]
    have Y0 := hide (show Below u4.heap.size u4 u4.drew from (Below.refl _ _).drew)
    refine wpAnyH_ready (rs := [5]) (by kernel_rfl) (by simp) (AllReadyH.cons rfl (fun K hK => ?_) AllReadyH.nil)
    rw [if_pos (by rfl)]
    go_simp
    refine (HRT.out _ (on_below T4.out.bel Y0.out)).mono ?_
    rintro r v1 ⟨rfl, hv1⟩
    have Y1 := hide (on_below Y0.out hv1)
    refine hK.out _ _ (Y1.out) (fun hHeld => ?_)
    clear hK K
    by_cases hDR : D = RX
    · have HU1 : Hid ((!decide (D = RX)) = false) := hide (by simp [hDR])
      have HRE : Hid (fu (hvL i 0 l) X lf q3 = root xs) := hide (by rw [HDE.out, hDR, HRX.out])
      clear hDR
      refine takeH 6 106 (.bool false) hHeld rfl rfl (by kernel_rfl) (by kernel_rfl) (by kernel_rfl) (fun _ _ _ h => h) (Or.inl ⟨by rfl, fun v _ => run_neQ aD _ rfl rfl HDD.out HRL.out HU1.out⟩) ?_
      simp only [Act.put, List.setIfInBounds_toArray, List.set_cons_zero, List.set_cons_succ]
      refine takeH 7 107 (.bool false) hHeld rfl rfl (by kernel_rfl) (by kernel_rfl) (by kernel_rfl) (fun _ _ _ h => h) (Or.inl ⟨by rfl, fun w _ => by go_simp⟩) ?_
      simp only [Act.put, List.setIfInBounds_toArray, List.set_cons_zero, List.set_cons_succ]
      refine takeH 8 108 (.slice (some ⟨b, o, none⟩) l cap) hHeld rfl rfl (by kernel_rfl) (by kernel_rfl) (by kernel_rfl) (fun _ _ _ h => h) (Or.inl ⟨by rfl, fun w _ => by go_simp⟩) ?_
      simp only [Act.put, List.setIfInBounds_toArray, List.set_cons_zero, List.set_cons_succ]
      refine takeH 9 109 (.int .i64 (i : Int)) hHeld rfl rfl (by kernel_rfl) (by kernel_rfl) (by kernel_rfl) (fun _ _ _ h => h) (Or.inl ⟨by rfl, fun w _ => by go_simp⟩) ?_
      simp only [Act.put, List.setIfInBounds_toArray, List.set_cons_zero, List.set_cons_succ]
      refine takeH 10 110 (.agg (u8s lf).toArray) hHeld rfl rfl (by kernel_rfl) (by kernel_rfl) (by kernel_rfl) (fun _ _ _ h => h) (yieldsIf_load_mid (by rfl) _ _ rfl g10 0 rfl _ _ (fun w h => (T4.out.g.on h).range 0 _ (by simp)) hu rfl HI2.out) ?_
      simp only [Act.put, List.setIfInBounds_toArray, List.set_cons_zero, List.set_cons_succ]
      refine takeH 11 111 (.slice ap q3 cp) hHeld rfl rfl (by kernel_rfl) (by kernel_rfl) (by kernel_rfl) (fun _ _ _ h => h) (Or.inl ⟨by rfl, fun w _ => by go_simp⟩) ?_
      simp only [Act.put, List.setIfInBounds_toArray, List.set_cons_zero, List.set_cons_succ]
      refine wpAnyH_ready (rs := [12]) (by kernel_rfl) (by simp) (AllReadyH.cons rfl (fun K hK => ?_) AllReadyH.nil)
      rw [if_pos (by rfl)]
      go_simp
      refine (collides_any b o l cap xs i lf ap q3 cp X _ (HS.out.below (on_below T4.out.bel Y1.out)) (T4.out.ds.below Y1.out) hil (by omega) HQ.out HLL.out HLB.out (HK.out.below (on_below T4.out.bel Y1.out) HK.out.lt) HRE.out HPT2.out).mono ?_
      rintro r v2 ⟨rfl, hv2⟩
      have Y2 := hide (on_below Y1.out hv2)
      refine hK.out _ _ (Y2.out) (fun hHeld => ?_)
      clear hK K
      refine takeH 13 113 (.bool true) hHeld rfl rfl (by kernel_rfl) (by kernel_rfl) (by kernel_rfl) (fun _ _ _ h => h) (Or.inl ⟨by rfl, fun w _ => by go_simp⟩) ?_
      simp only [Act.put, List.setIfInBounds_toArray, List.set_cons_zero, List.set_cons_succ]
      refine takeH 14 114 (.bool true) hHeld rfl rfl (by kernel_rfl) (by kernel_rfl) (by kernel_rfl) (fun _ _ _ h => h) (Or.inl ⟨by rfl, fun w _ => by go_simp⟩) ?_
      simp only [Act.put, List.setIfInBounds_toArray, List.set_cons_zero, List.set_cons_succ]
      refine takeH 15 6 (.bool true) hHeld rfl rfl (by kernel_rfl) (by kernel_rfl) (by kernel_rfl) (fun _ _ _ h => h) (Or.inl ⟨by rfl, fun w _ => by go_simp⟩) ?_
      simp only [Act.put, List.setIfInBounds_toArray, List.set_cons_zero, List.set_cons_succ]
      refine wpAnyH_done (by kernel_rfl) ?_ _
      refine NoPanic.normal ?_
      clear hHeld hu
      go_wp2
      go_ret
      exact ⟨rfl, on_below T4.out.bel Y2.out⟩
    · have HU1 : Hid ((!decide (D = RX)) = true) := hide (by simp [hDR])
      clear hDR
      refine takeH 6 106 (.bool true) hHeld rfl rfl (by kernel_rfl) (by kernel_rfl) (by kernel_rfl) (fun _ _ _ h => h) (Or.inl ⟨by rfl, fun v _ => run_neQ aD _ rfl rfl HDD.out HRL.out HU1.out⟩) ?_
      simp only [Act.put, List.setIfInBounds_toArray, List.set_cons_zero, List.set_cons_succ]
      refine takeH 7 107 (.bool true) hHeld rfl rfl (by kernel_rfl) (by kernel_rfl) (by kernel_rfl) (fun _ _ _ h => h) (Or.inl ⟨by rfl, fun w _ => by go_simp⟩) ?_
      simp only [Act.put, List.setIfInBounds_toArray, List.set_cons_zero, List.set_cons_succ]
      refine takeH 8 108 undef hHeld rfl rfl (by kernel_rfl) (by kernel_rfl) (by kernel_rfl) (fun _ _ _ h => h) (Or.inr ⟨by rfl, rfl⟩) ?_
      simp only [Act.put, List.setIfInBounds_toArray, List.set_cons_zero, List.set_cons_succ]
      refine takeH 9 109 undef hHeld rfl rfl (by kernel_rfl) (by kernel_rfl) (by kernel_rfl) (fun _ _ _ h => h) (Or.inr ⟨by rfl, rfl⟩) ?_
      simp only [Act.put, List.setIfInBounds_toArray, List.set_cons_zero, List.set_cons_succ]
      refine takeH 10 110 undef hHeld rfl rfl (by kernel_rfl) (by kernel_rfl) (by kernel_rfl) (fun _ _ _ h => h) (Or.inr ⟨by rfl, rfl⟩) ?_
      simp only [Act.put, List.setIfInBounds_toArray, List.set_cons_zero, List.set_cons_succ]
      refine takeH 11 111 undef hHeld rfl rfl (by kernel_rfl) (by kernel_rfl) (by kernel_rfl) (fun _ _ _ h => h) (Or.inr ⟨by rfl, rfl⟩) ?_
      simp only [Act.put, List.setIfInBounds_toArray, List.set_cons_zero, List.set_cons_succ]
      refine takeH 12 112 undef hHeld rfl rfl (by kernel_rfl) (by kernel_rfl) (by kernel_rfl) (fun _ _ _ h => h) (Or.inr ⟨by rfl, rfl⟩) ?_
      simp only [Act.put, List.setIfInBounds_toArray, List.set_cons_zero, List.set_cons_succ]
      refine takeH 13 113 (.bool true) hHeld rfl rfl (by kernel_rfl) (by kernel_rfl) (by kernel_rfl) (fun _ _ _ h => h) (Or.inl ⟨by rfl, fun w _ => by go_simp⟩) ?_
      simp only [Act.put, List.setIfInBounds_toArray, List.set_cons_zero, List.set_cons_succ]
      refine takeH 14 114 (.bool true) hHeld rfl rfl (by kernel_rfl) (by kernel_rfl) (by kernel_rfl) (fun _ _ _ h => h) (Or.inl ⟨by rfl, fun w _ => by go_simp⟩) ?_
      simp only [Act.put, List.setIfInBounds_toArray, List.set_cons_zero, List.set_cons_succ]
      refine takeH 15 6 (.bool true) hHeld rfl rfl (by kernel_rfl) (by kernel_rfl) (by kernel_rfl) (fun _ _ _ h => h) (Or.inl ⟨by rfl, fun w _ => by go_simp⟩) ?_
      simp only [Act.put, List.setIfInBounds_toArray, List.set_cons_zero, List.set_cons_succ]
      refine wpAnyH_done (by kernel_rfl) ?_ _
      refine NoPanic.normal ?_
      clear hHeld hu
      go_wp2
      go_ret
      exact ⟨rfl, on_below T4.out.bel Y1.out⟩

end Go.Proofs.YtdggooanpamoeaaDoor
