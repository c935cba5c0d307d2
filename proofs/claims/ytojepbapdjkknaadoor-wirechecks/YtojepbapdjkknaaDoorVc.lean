/-
  The document's Roots; what both tell; Consistency of both.
-/
import Derived.Test.YtojepbapdjkknaaDoorVq
import Derived.Test.YtojepbapdjkknaaDoorVv
namespace Go.Proofs.YtojepbapdjkknaaDoor
open Go.RowKit
set_option linter.unusedVariables false

set_option maxRecDepth 100000 in
set_option maxHeartbeats 1000000 in
theorem rootsR7_bad (d : List Int) (m n : Int) (a : Value) (w : World) (h : m < 1 ∨ n < m ∨ 281474976710656 < n) :
    Calls Tryd.prog 78 #[.agg (u8s d).toArray, .int .i64 m, .int .i64 n, a] w fun r w' => r = .returned (.tuple #[.agg (u8s (zer 32)).toArray, .agg (u8s (zer 32)).toArray, .int .i64 40]) ∧ Below w.heap.size w w' := by
  have H := hide (fun v => stepsR_bad m n v h)
  clear h
  go_enter Tryd.func78, Tryd.ntmps78
  go_wp2_with (refine step_box rfl rfl ?_)
  intro w1 g4 hr1 hl1 hb1
  have G4 := hide hr1
  clear hr1
  go_wp2_with (refine step_alloc zD rfl ?_)
  intro w2 g8 hr2 hl2 hb2
  have G8 := hide hr2
  have G42 := hide (G4.out.on hb2)
  have B2 := hide (hb1.trans (hb2.mono hb1.size))
  have hw8 : w.heap.size ≤ g8 := Nat.le_trans hb1.size hl2
  clear hr2 hb1 hb2 G4
  go_wp2_with (refine step_alloc zD rfl ?_)
  intro w3 g9 hr3 hl3 hb3
  have G9 := hide hr3
  have G83 := hide (G8.out.on hb3)
  have G43 := hide (G42.out.on hb3)
  have h89 : g8 ≠ g9 := by have := G8.out.lt; omega
  have hw9 : w.heap.size ≤ g9 := Nat.le_trans B2.out.size hl3
  have B3 := hide (on_below B2.out hb3)
  clear hr3 hb3 G8 G42 B2
  go_wp2_with fail
  refine (H.out _).mono ?_
  rintro r w4 ⟨rfl, rfl⟩
  go_wp2_with (first | (refine step_buildD rfl ?_) | (refine step_storeA wD rfl rfl rfl G83.out (by rw [u8s_length, zer_length]) (One.u8 _) rfl ?_))
  intro w5 hg5 hbut5
  have E8 := hide hg5
  have E9 := hide (G9.out.but hbut5 (Ne.symm h89))
  have EB := hide (B3.out.trans (hbut5.below hw8))
  clear hg5 hbut5
  go_wp2_with (refine step_storeA wD rfl rfl rfl E9.out (by rw [u8s_length, zer_length]) (One.u8 _) rfl ?_; intro w6 hg6 hbut6)
  refine bodyPost_ret (results_wwt rfl wD wD _ _ rfl rfl (E8.out.but hbut6 h89) hg6 (by rw [u8s_length, zer_length]) (by rw [u8s_length, zer_length])) rfl ⟨rfl, ?_⟩
  exact EB.out.trans (hbut6.below hw9)
set_option maxRecDepth 100000 in
set_option maxHeartbeats 1000000 in
theorem rootsR7_len (d : List Int) (m n : Nat) (a : Option Addr) (l cap : Nat) (w : World) (h0 : 1 ≤ m) (h1 : m ≤ n) (h2 : n ≤ 281474976710656) (hl : l ≠ (hvM m 0 n).length + ptM m 0 n) :
    Calls Tryd.prog 78 #[.agg (u8s d).toArray, .int .i64 (m : Int), .int .i64 (n : Int), .slice a l cap] w fun r w' => r = .returned (.tuple #[.agg (u8s (zer 32)).toArray, .agg (u8s (zer 32)).toArray, .int .i64 70]) ∧ Below w.heap.size w w' := by
  have H := hide (fun v => stepsR_ok m n v h0 h1 h2)
  have hl' : ((l : Int) != (((hvM m 0 n).length + ptM m 0 n : Nat) : Int)) = true := by simp; omega
  generalize (hvM m 0 n).length + ptM m 0 n = L at *
  clear hl
  go_enter Tryd.func78, Tryd.ntmps78
  go_wp2_with (refine step_box rfl rfl ?_)
  intro w1 g4 hr1 hl1 hb1
  have G4 := hide hr1
  clear hr1
  go_wp2_with (refine step_alloc zD rfl ?_)
  intro w2 g8 hr2 hl2 hb2
  have G8 := hide hr2
  have G42 := hide (G4.out.on hb2)
  have B2 := hide (hb1.trans (hb2.mono hb1.size))
  have hw8 : w.heap.size ≤ g8 := Nat.le_trans hb1.size hl2
  clear hr2 hb1 hb2 G4
  go_wp2_with (refine step_alloc zD rfl ?_)
  intro w3 g9 hr3 hl3 hb3
  have G9 := hide hr3
  have G83 := hide (G8.out.on hb3)
  have G43 := hide (G42.out.on hb3)
  have h89 : g8 ≠ g9 := by have := G8.out.lt; omega
  have hw9 : w.heap.size ≤ g9 := Nat.le_trans B2.out.size hl3
  have B3 := hide (on_below B2.out hb3)
  clear hr3 hb3 G8 G42 B2
  go_wp2_with fail
  refine (H.out _).mono ?_
  rintro r w4 ⟨rfl, rfl⟩
  go_wp2_with (first | (refine step_buildD rfl ?_) | (refine step_storeA wD rfl rfl rfl G83.out (by rw [u8s_length, zer_length]) (One.u8 _) rfl ?_))
  intro w5 hg5 hbut5
  have E8 := hide hg5
  have E9 := hide (G9.out.but hbut5 (Ne.symm h89))
  have EB := hide (B3.out.trans (hbut5.below hw8))
  clear hg5 hbut5
  go_wp2_with (refine step_storeA wD rfl rfl rfl E9.out (by rw [u8s_length, zer_length]) (One.u8 _) rfl ?_; intro w6 hg6 hbut6)
  refine bodyPost_ret (results_wwt rfl wD wD _ _ rfl rfl (E8.out.but hbut6 h89) hg6 (by rw [u8s_length, zer_length]) (by rw [u8s_length, zer_length])) rfl ⟨rfl, ?_⟩
  exact EB.out.trans (hbut6.below hw9)
set_option maxRecDepth 100000 in
set_option maxHeartbeats 2000000 in
theorem rootsR7_ok (d : List Int) (m n : Nat) (a : Option Addr) (l cap : Nat) (xs : List Int) (w : World) (h0 : 1 ≤ m) (h1 : m ≤ n) (h2 : n ≤ 281474976710656) (hl : l = (hvM m 0 n).length + ptM m 0 n) (hd : d.length = 32) (hdb : isB d) (hs : Ds w a l cap xs) :
    Calls Tryd.prog 78 #[.agg (u8s d).toArray, .int .i64 (m : Int), .int .i64 (n : Int), .slice a l cap] w fun r w' => r = .returned (.tuple #[.agg (u8s (fo (hvM m 0 n) (xs.drop (32 * ptM m 0 n)) (st0 (ptM m 0 n) d xs) (hvM m 0 n).length)).toArray, .agg (u8s (fu (hvM m 0 n) (xs.drop (32 * ptM m 0 n)) (st0 (ptM m 0 n) d xs) (hvM m 0 n).length)).toArray, .int .i64 0]) ∧ Below w.heap.size w w' := by
  have H := hide (fun v => stepsR_ok m n v h0 h1 h2)
  rw [← hl] at H
  have HU : Hid (∀ v : World, Ds v a l cap xs → Calls Tryd.prog 97 #[.agg (u8s d).toArray, .int .i64 (m : Int), .int .i64 (n : Int), .slice a l cap, .bool true] v fun r w' => r = .returned (.tuple #[.agg (u8s (fo (hvM m 0 n) (xs.drop (32 * ptM m 0 n)) (st0 (ptM m 0 n) d xs) (hvM m 0 n).length)).toArray, .agg (u8s (fu (hvM m 0 n) (xs.drop (32 * ptM m 0 n)) (st0 (ptM m 0 n) d xs) (hvM m 0 n).length)).toArray]) ∧ Below v.heap.size v w') := hide fun v hv => by
    have := twoR_any d m h0 hd hdb n 0 n l true a cap xs v (Nat.le_refl _) (by omega) (by omega) (by omega) (by decide) hl hv
    rwa [show (m : Int) - ((0 : Nat) : Int) = (m : Int) by omega] at this
  have HS := hide hs
  have HLL := hide (show (u8s d).length = 32 by rw [u8s_length, hd])
  have hTl : ptM m 0 n ≤ l := by omega
  have HXL := hide (fo_length (hs := hvM m 0 n) (xs := xs.drop (32 * ptM m 0 n)) (st0_length (t := ptM m 0 n) hd hs.hlen hTl) (hvM m 0 n).length)
  have HYL := hide (fu_length (hs := hvM m 0 n) (xs := xs.drop (32 * ptM m 0 n)) (st0_length (t := ptM m 0 n) hd hs.hlen hTl) (hvM m 0 n).length)
  generalize fo (hvM m 0 n) (xs.drop (32 * ptM m 0 n)) (st0 (ptM m 0 n) d xs) (hvM m 0 n).length = X at *
  generalize fu (hvM m 0 n) (xs.drop (32 * ptM m 0 n)) (st0 (ptM m 0 n) d xs) (hvM m 0 n).length = Y at *
  have HXU := hide (show (u8s X).length = 32 by rw [u8s_length, HXL.out])
  have HYU := hide (show (u8s Y).length = 32 by rw [u8s_length, HYL.out])
  clear hl hs hTl
  go_enter Tryd.func78, Tryd.ntmps78
  go_wp2_with (refine step_box rfl rfl ?_)
  intro w1 g4 hr1 hl1 hb1
  have G4 := hide hr1
  clear hr1
  go_wp2_with (refine step_alloc zD rfl ?_)
  intro w2 g8 hr2 hl2 hb2
  have G8 := hide hr2
  have G42 := hide (G4.out.on hb2)
  have B2 := hide (hb1.trans (hb2.mono hb1.size))
  have hw8 : w.heap.size ≤ g8 := Nat.le_trans hb1.size hl2
  clear hr2 hb1 hb2 G4
  go_wp2_with (refine step_alloc zD rfl ?_)
  intro w3 g9 hr3 hl3 hb3
  have G9 := hide hr3
  have G83 := hide (G8.out.on hb3)
  have G43 := hide (G42.out.on hb3)
  have h89 : g8 ≠ g9 := by have := G8.out.lt; omega
  have hw9 : w.heap.size ≤ g9 := Nat.le_trans B2.out.size hl3
  have B3 := hide (on_below B2.out hb3)
  clear hr3 hb3 G8 G42 B2
  go_wp2_with fail
  refine (H.out _).mono ?_
  rintro r w4 ⟨rfl, rfl⟩
  go_wp2_with (refine step_loadA wD rfl rfl G43.out HLL.out ?_)
  refine (HU.out _ (HS.out.below B3.out)).mono ?_
  rintro r w6 ⟨rfl, hb6⟩
  have Q8 := hide (G83.out.on hb6)
  have Q9 := hide (G9.out.on hb6)
  have QB := hide (on_below B3.out hb6)
  clear hb6 G83 G9 G43 B3
  go_wp2_with (refine step_alloc zD rfl ?_)
  intro w7 g13 hr7 hl7 hb7
  have G13 := hide hr7
  clear hr7
  go_wp2_with (refine step_alloc zD rfl ?_)
  intro w8 g14 hr8 hl8 hb8
  have h1314 : g13 ≠ g14 := by have := G13.out.lt; omega
  have G14 := hide hr8
  have G138 := hide (G13.out.on hb8)
  have X8 := hide (on_below hb7 hb8)
  have hl68 : w6.heap.size ≤ g14 := Nat.le_trans hb7.size hl8
  clear hr8 G13 hb7 hb8
  go_wp2_with (refine step_storeA wD rfl rfl rfl G138.out HXU.out (One.u8 _) rfl ?_)
  intro w9 hg9 hbut9
  have G139 := hide hg9
  have G149 := hide (G14.out.but hbut9 h1314.symm)
  have X9 := hide (X8.out.trans (hbut9.below hl7))
  clear hg9 hbut9 G138 G14 X8
  go_wp2_with (refine step_storeA wD rfl rfl rfl G149.out HYU.out (One.u8 _) rfl ?_)
  intro z0 hg0 hbut0
  have X0 := hide (X9.out.trans (hbut0.below hl68))
  have h8a : g8 ≠ g13 := by have := Q8.out.lt; omega
  have h8b : g8 ≠ g14 := by have := Q8.out.lt; omega
  have h9a : g9 ≠ g13 := by have := Q9.out.lt; omega
  have h9b : g9 ≠ g14 := by have := Q9.out.lt; omega
  have T13 := hide ((G139.out.but hbut0 h1314).on ((Below.refl _ _).drew))
  have T14 := hide ((show Blk z0 g14 45 (u8s Y) from hg0).on ((Below.refl _ _).drew))
  have T8 := hide ((Q8.out.on X0.out).on ((Below.refl _ _).drew))
  have T9 := hide ((Q9.out.on X0.out).on ((Below.refl _ _).drew))
  have TB := hide ((on_below QB.out X0.out).drew)
  clear hg0 hbut0 G139 G149 X9 X0 Q8 Q9 QB hl7 hl8 hl68
  have hu := aD.und
  have HI1 : Hid ((Tryd.prog.info? 45).map (·.size) = some (u8s X).length) := hide (by rw [wD.size, HXU.out])
  have HI2 : Hid ((Tryd.prog.info? 45).map (·.size) = some (u8s Y).length) := hide (by rw [wD.size, HYU.out])
  have hS : ∀ v : World, Blk v g13 45 (u8s X) → Blk v g14 45 (u8s Y) → v.rangeAt g13 0 (u8s X) ∧ v.rangeAt g14 0 (u8s Y) := fun v h1 h2 => ⟨h1.range 0 _ (by simp), h2.range 0 _ (by simp)⟩
  go_wp2_with fail
  refine wp_region_noPanic ?_
  refine wp_region_held_drew (S := fun v : World => v.rangeAt g13 0 (u8s X) ∧ v.rangeAt g14 0 (u8s Y)) (by kernel_rfl) (hS _ T13.out T14.out) (fun hHeld => ?_)
  refine takeH 0 40 (.agg (u8s X).toArray) hHeld rfl rfl (by kernel_rfl) (by kernel_rfl) (by kernel_rfl) (fun _ _ _ h => h) (yieldsIf_load_mid (by rfl) _ _ rfl g13 0 rfl _ _ (fun w h => h.1) hu rfl HI1.out) ?_
  simp only [Act.put, List.setIfInBounds_toArray, List.set_cons_zero, List.set_cons_succ]
  refine takeH 1 41 (.agg (u8s Y).toArray) hHeld rfl rfl (by kernel_rfl) (by kernel_rfl) (by kernel_rfl) (fun _ _ _ h => h) (yieldsIf_load_mid (by rfl) _ _ rfl g14 0 rfl _ _ (fun w h => h.2) hu rfl HI2.out) ?_
  simp only [Act.put, List.setIfInBounds_toArray, List.set_cons_zero, List.set_cons_succ]
  refine wpAnyH_ready (rs := [2]) (by kernel_rfl) (by simp) (AllReadyH.cons rfl (fun K hK => ?_) AllReadyH.nil)
  rw [if_pos (by rfl)]
  refine wp_storeW wD rfl rfl rfl T8.out HXU.out (One.u8 _) (by rw [u8s_length, zer_length]; omega) ?_
  intro u1 hg1 hbut1
  rw [spl_same _ _ (zer_length 32) HXL.out] at hg1
  have T131 := hide (T13.out.but hbut1 h8a.symm)
  have T141 := hide (T14.out.but hbut1 h8b.symm)
  have T91 := hide (T9.out.but hbut1 h89.symm)
  refine hK.out _ _ (hS _ T131.out T141.out) (fun hHeld => ?_)
  clear hK K
  simp only [Act.put]
  refine wpAnyH_ready (rs := [3]) (by kernel_rfl) (by simp) (AllReadyH.cons rfl (fun K hK => ?_) AllReadyH.nil)
  rw [if_pos (by rfl)]
  refine wp_storeW wD rfl rfl rfl T91.out HYU.out (One.u8 _) (by rw [u8s_length, zer_length]; omega) ?_
  intro u2 hg2 hbut2
  rw [spl_same _ _ (zer_length 32) HYL.out] at hg2
  refine hK.out _ _ (hS _ (T131.out.but hbut2 h9a.symm) (T141.out.but hbut2 h9b.symm)) (fun hHeld => ?_)
  clear hK K
  simp only [Act.put]
  refine takeH 4 10 (.int .i64 0) hHeld rfl rfl (by kernel_rfl) (by kernel_rfl) (by kernel_rfl) (fun _ _ _ h => h) (Or.inl ⟨by rfl, fun w _ => by go_simp⟩) ?_
  simp only [Act.put, List.setIfInBounds_toArray]
  refine wpAnyH_done (by kernel_rfl) ?_ _
  refine NoPanic.normal ?_
  clear hHeld hS hu
  go_wp2
  refine bodyPost_ret (results_wwt rfl wD wD _ _ rfl rfl (hg1.but hbut2 h89) hg2 HXU.out HYU.out) rfl ⟨rfl, (TB.out.trans (hbut1.below hw8)).trans (hbut2.below hw9)⟩

/-- What Roots tells, program and document. -/
structure RT (d : List Int) (m n : Int) (l : Nat) (xs X Y : List Int) (E : Int) : Prop where
  lx : X.length = 32
  bx : isB X
  ly : Y.length = 32
  by' : isB Y
  prog : ∀ (a : Option Addr) (cap : Nat) (w : World), Ds w a l cap xs → KT w → Calls Tryd.prog 77 #[.agg (u8s d).toArray, .int .i64 m, .int .i64 n, .slice a l cap] w fun r w' => r = .returned (.tuple #[.agg (u8s X).toArray, .agg (u8s Y).toArray, .int .i64 E]) ∧ Below w.heap.size w w'
  doc : ∀ (a : Option Addr) (cap : Nat) (w : World), Ds w a l cap xs → Calls Tryd.prog 78 #[.agg (u8s d).toArray, .int .i64 m, .int .i64 n, .slice a l cap] w fun r w' => r = .returned (.tuple #[.agg (u8s X).toArray, .agg (u8s Y).toArray, .int .i64 E]) ∧ Below w.heap.size w w'
theorem roots_both (d : List Int) (m n : Int) (l : Nat) (xs : List Int) (hd : d.length = 32) (hdb : isB d) (hx : xs.length = 32 * l) (hxb : isB xs) : ∃ X Y E, RT d m n l xs X Y E := by
  by_cases h : m < 1 ∨ n < m ∨ 281474976710656 < n
  · exact ⟨zer 32, zer 32, 40, zer_length 32, zer_isB32, zer_length 32, zer_isB32, fun a cap w _ _ => roots7_bad d m n _ w h, fun a cap w _ => rootsR7_bad d m n _ w h⟩
  · obtain ⟨m', rfl⟩ : ∃ i' : Nat, m = (i' : Int) := ⟨m.toNat, by omega⟩
    obtain ⟨n', rfl⟩ : ∃ n' : Nat, n = (n' : Int) := ⟨n.toNat, by omega⟩
    by_cases hl : l = (hvM m' 0 n').length + ptM m' 0 n'
    · have h1 := st0_length (t := ptM m' 0 n') hd hx (by omega)
      have h2 := st0_isB (t := ptM m' 0 n') hdb hxb
      exact ⟨_, _, 0, fo_length h1 _, fo_isB h2 _, fu_length h1 _, fu_isB h2 _, fun a cap w hs hk => roots7_ok d m' n' a l cap xs w (by omega) (by omega) (by omega) hl hd hdb hs hk, fun a cap w hs => rootsR7_ok d m' n' a l cap xs w (by omega) (by omega) (by omega) hl hd hdb hs⟩
    · exact ⟨zer 32, zer 32, 70, zer_length 32, zer_isB32, zer_length 32, zer_isB32, fun a cap w _ _ => roots7_len d m' n' a l cap w (by omega) (by omega) (by omega) hl, fun a cap w _ => rootsR7_len d m' n' a l cap w (by omega) (by omega) (by omega) hl⟩

end Go.Proofs.YtojepbapdjkknaaDoor
