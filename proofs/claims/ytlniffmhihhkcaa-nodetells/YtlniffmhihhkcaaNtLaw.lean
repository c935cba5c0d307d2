/-
  The walk of NodeTells.
-/
import Derived.Test.YtlniffmhihhkcaaNi
namespace Go.Proofs.Ytlniffmhihhkcaa
open Go.RowKit
set_option linter.unusedVariables false

theorem names_any (w : World) : Calls Try.prog 14 #[] w fun e w' => e = .returned (.bool true) ∧ w' = w := by
  go_enter Try.func14, Try.ntmps14
  go_wp2
  go_ret
  exact ⟨rfl, rfl⟩

set_option maxRecDepth 100000 in
set_option maxHeartbeats 4000000 in
theorem tells_no (l i l' i' : Int) (w : World) (h : ¬ V l i) :
    Calls Try.prog 3 #[.agg #[.int .i64 l, .int .i64 i], .agg #[.int .i64 l', .int .i64 i']] w fun e w' => e = .returned (.bool true) ∧ Below w.heap.size w w' := by
  obtain ⟨q, hw1, hw2⟩ := within_same l i l' i'
  have HW1 := hide hw1
  have HW2 := hide hw2
  have HV := hide h
  clear hw1 hw2 h
  go_enter Try.func3, Try.ntmps3
  go_wp2_with (first | (refine step_box (cs := c2 l i) rfl rfl ?_; intro w1 g1 hg1 hle1 hb1; refine step_box (cs := c2 l' i') rfl rfl ?_; intro w2 g2 hg2 hle2 hb2; have q2 := on_below hb1 hb2; have B2 := hide (((Bs.nil w2).push hg2).push (hg1.on hb2)); have c0 := (hg1.on hb2).two.1; have c1 := (hg1.on hb2).two.2; clear hg1 hg2))
  refine (leaves_no l i _ HV.out).mono ?_
  rintro e w3 ⟨rfl, hb3⟩
  have q3 := on_below q2 hb3
  have B3 := hide (B2.out.on hb3)
  clear hb1 hb2 hb3 q2 B2 hle1 hle2 c0 c1
  go_wp2_with (first | (refine step_alloc zS rfl ?_; intro w4 g4 hg4 hle4 hb4; have HG4 := hide hg4; clear hg4) | (refine step_storeA wS rfl rfl rfl HG4.out rfl (One.c2 0 0) rfl ?_))
  intro w5 hg5 hbut5
  have q5 := new_below q3 hb4 hle4 hbut5
  have B5 := hide (B3.out.new hb4 hle4 hg5 hbut5)
  clear hb4 hle4 hbut5 q3 B3 hg5 HG4
  have c0 := (B5.out.at 1 rfl).two.1
  have c1 := (B5.out.at 1 rfl).two.2
  go_wp2_with fail
  refine (parent_no l i _ HV.out).mono ?_
  rintro e w6 ⟨rfl, hb6⟩
  have q6 := on_below q5 hb6
  have B6 := hide (B5.out.on hb6)
  clear hb6 q5 B5 c0 c1
  go_wp2_with (first | (refine step_alloc zN rfl ?_; intro w7 g7 hg7 hle7 hb7; have HG7 := hide hg7; clear hg7) | (refine step_storeA wN rfl rfl rfl HG7.out rfl (One.c2 0 0) rfl ?_))
  intro w8 hg8 hbut8
  have q8 := new_below q6 hb7 hle7 hbut8
  have B8 := hide (B6.out.new hb7 hle7 hg8 hbut8)
  clear hb7 hle7 hbut8 q6 B6 hg8 HG7
  have c0 := (B8.out.at 2 rfl).two.1
  have c1 := (B8.out.at 2 rfl).two.2
  go_wp2_with fail
  refine (sibling_no l i _ HV.out).mono ?_
  rintro e w9 ⟨rfl, hb9⟩
  have q9 := on_below q8 hb9
  have B9 := hide (B8.out.on hb9)
  clear hb9 q8 B8 c0 c1
  go_wp2_with (first | (refine step_alloc zN rfl ?_; intro wa ga hga hlea hba; have HGa := hide hga; clear hga) | (refine step_storeA wN rfl rfl rfl HGa.out rfl (One.c2 0 0) rfl ?_))
  intro wb hgb hbutb
  have qb := new_below q9 hba hlea hbutb
  have Bb := hide (B9.out.new hba hlea hgb hbutb)
  clear hba hlea hbutb q9 B9 hgb HGa
  have c0 := Sub.cell (Bb.out.at 3 rfl).two.1
  have c1 := Sub.cell (Bb.out.at 3 rfl).two.2
  have d0 := Sub.cell (Bb.out.at 4 rfl).two.1
  have d1 := Sub.cell (Bb.out.at 4 rfl).two.2
  have hne := Sub.one wb
  go_wp2_with fail
  refine wp_region_sub (by kernel_rfl) (by kernel_rfl) ?_
  repeat (go_big_quiet_step (fail))
  go_big_quiet_step ((go_at_call 10; exact sub_call (valid_no l i _ HV.out)))
  repeat (go_big_quiet_step (fail))
  go_big_quiet_step ((go_at_call 11; exact sub_call (validR_no l i _ HV.out)))
  repeat (go_big_quiet_step (fail))
  go_big_quiet_step ((go_at_call 12; exact sub_call (HW1.out _)))
  repeat (go_big_quiet_step (fail))
  go_big_quiet_step ((go_at_call 13; exact sub_call (HW2.out _)))
  repeat (go_big_quiet_step (fail))
  go_big_quiet_step ((go_at_call 12; exact sub_call (within_no1 l i l i _ HV.out)))
  repeat (go_big_quiet_step (fail))
  go_big_quiet_step ((go_at_call 11; exact sub_call (validR_no l i _ HV.out)))
  repeat (go_big_quiet_step (fail))
  refine wpQuiet_nil ?_
  rintro _ ⟨⟨wc, hbc⟩, rfl⟩
  have qc := on_below qb hbc
  have Bc := hide (Bb.out.on hbc)
  clear hbc qb Bb c0 c1 d0 d1 hne
  have c0 := (Bc.out.at 3 rfl).two.1
  have c1 := (Bc.out.at 3 rfl).two.2
  go_wp2_with fail
  refine (validR_no l i _ HV.out).mono ?_
  rintro e wd ⟨rfl, hbd⟩
  have qd := on_below qc hbd
  have Bd := hide (Bc.out.on hbd)
  clear hbd qc Bc c0 c1
  have c0 := (Bd.out.at 3 rfl).two.1
  have c1 := (Bd.out.at 3 rfl).two.2
  have s0 := (Bd.out.at 2 rfl).two.1
  have s1 := (Bd.out.at 2 rfl).two.2
  have p0 := (Bd.out.at 1 rfl).two.1
  have p1 := (Bd.out.at 1 rfl).two.2
  have b0 := (Bd.out.at 0 rfl).two.1
  have b1 := (Bd.out.at 0 rfl).two.2
  go_wp2_with (go_at_call 14; refine (names_any _).mono ?_; rintro e w' ⟨rfl, rfl⟩)
  go_ret
  exact ⟨rfl, qd⟩

set_option maxRecDepth 100000 in
set_option maxHeartbeats 4000000 in
theorem tells_top (l' i' : Int) (w : World) :
    Calls Try.prog 3 #[.agg #[.int .i64 48, .int .i64 0], .agg #[.int .i64 l', .int .i64 i']] w fun e w' => e = .returned (.bool true) ∧ Below w.heap.size w w' := by
  obtain ⟨q, hw1, hw2⟩ := within_same 48 0 l' i'
  have HW1 := hide hw1
  have HW2 := hide hw2
  have hlt : ((0 : Nat) : Int) < 281474976710656 / 2 ^ 48 := by decide
  have HL : Hid (∀ w : World, Calls Try.prog 7 #[.agg #[.int .i64 48, .int .i64 0]] w fun e w' => e = .returned (.tuple #[.agg #[.int .i64 0, .int .i64 281474976710656], .int .i64 0]) ∧ Below w.heap.size w w') := hide fun w => leaves_yes 48 0 w (by decide) hlt
  have HP : Hid (∀ w : World, Calls Try.prog 8 #[.agg #[.int .i64 48, .int .i64 0]] w fun e w' => e = .returned (.tuple #[.agg #[.int .i64 0, .int .i64 0], .int .i64 40]) ∧ Below w.heap.size w w') := hide fun w => parent_top 0 w hlt
  have HS : Hid (∀ w : World, Calls Try.prog 9 #[.agg #[.int .i64 48, .int .i64 0]] w fun e w' => e = .returned (.tuple #[.agg #[.int .i64 0, .int .i64 0], .int .i64 40]) ∧ Below w.heap.size w w') := hide fun w => sibling_top 0 w hlt
  have HV : Hid (∀ w : World, Calls Try.prog 10 #[.agg #[.int .i64 48, .int .i64 0]] w fun e w' => e = .returned (.bool true) ∧ Below w.heap.size w w') := hide fun w => valid_yes 48 0 w (by decide) hlt
  have HVR : Hid (∀ w : World, Calls Try.prog 11 #[.agg #[.int .i64 48, .int .i64 0]] w fun e w' => e = .returned (.bool true) ∧ Below w.heap.size w w') := hide fun w => validR_yes 48 0 w (by decide) hlt
  have HLR : Hid (∀ w : World, Calls Try.prog 15 #[.agg #[.int .i64 48, .int .i64 0]] w fun e w' => e = .returned (.agg #[.int .i64 0, .int .i64 281474976710656]) ∧ Below w.heap.size w w') := hide fun w => leavesR_yes 48 0 w (by decide) hlt
  have HWS : Hid (∀ w : World, Calls Try.prog 12 #[.agg #[.int .i64 48, .int .i64 0], .agg #[.int .i64 48, .int .i64 0]] w fun e w' => e = .returned (.bool true) ∧ Below w.heap.size w w') := hide fun w => within_self 48 0 w (by decide) hlt
  clear hw1 hw2 hlt
  go_enter Try.func3, Try.ntmps3
  go_wp2_with (first | (refine step_box (cs := c2 48 0) rfl rfl ?_; intro w1 g1 hg1 hle1 hb1; refine step_box (cs := c2 l' i') rfl rfl ?_; intro w2 g2 hg2 hle2 hb2; have q2 := on_below hb1 hb2; have B2 := hide (((Bs.nil w2).push hg2).push (hg1.on hb2)); have c0 := (hg1.on hb2).two.1; have c1 := (hg1.on hb2).two.2; clear hg1 hg2))
  refine (HL.out _).mono ?_
  rintro e w3 ⟨rfl, hb3⟩
  have q3 := on_below q2 hb3
  have B3 := hide (B2.out.on hb3)
  clear hb1 hb2 hb3 q2 B2 hle1 hle2 c0 c1
  go_wp2_with (first | (refine step_alloc zS rfl ?_; intro w4 g4 hg4 hle4 hb4; have HG4 := hide hg4; clear hg4) | (refine step_storeA wS rfl rfl rfl HG4.out rfl (One.c2 0 281474976710656) rfl ?_))
  intro w5 hg5 hbut5
  have q5 := new_below q3 hb4 hle4 hbut5
  have B5 := hide (B3.out.new hb4 hle4 hg5 hbut5)
  clear hb4 hle4 hbut5 q3 B3 hg5 HG4
  have c0 := (B5.out.at 1 rfl).two.1
  have c1 := (B5.out.at 1 rfl).two.2
  go_wp2_with fail
  refine (HP.out _).mono ?_
  rintro e w6 ⟨rfl, hb6⟩
  have q6 := on_below q5 hb6
  have B6 := hide (B5.out.on hb6)
  clear hb6 q5 B5 c0 c1
  go_wp2_with (first | (refine step_alloc zN rfl ?_; intro w7 g7 hg7 hle7 hb7; have HG7 := hide hg7; clear hg7) | (refine step_storeA wN rfl rfl rfl HG7.out rfl (One.c2 0 0) rfl ?_))
  intro w8 hg8 hbut8
  have q8 := new_below q6 hb7 hle7 hbut8
  have B8 := hide (B6.out.new hb7 hle7 hg8 hbut8)
  clear hb7 hle7 hbut8 q6 B6 hg8 HG7
  have c0 := (B8.out.at 2 rfl).two.1
  have c1 := (B8.out.at 2 rfl).two.2
  go_wp2_with fail
  refine (HS.out _).mono ?_
  rintro e w9 ⟨rfl, hb9⟩
  have q9 := on_below q8 hb9
  have B9 := hide (B8.out.on hb9)
  clear hb9 q8 B8 c0 c1
  go_wp2_with (first | (refine step_alloc zN rfl ?_; intro wa ga hga hlea hba; have HGa := hide hga; clear hga) | (refine step_storeA wN rfl rfl rfl HGa.out rfl (One.c2 0 0) rfl ?_))
  intro wb hgb hbutb
  have qb := new_below q9 hba hlea hbutb
  have Bb := hide (B9.out.new hba hlea hgb hbutb)
  clear hba hlea hbutb q9 B9 hgb HGa
  have c0 := Sub.cell (Bb.out.at 3 rfl).two.1
  have c1 := Sub.cell (Bb.out.at 3 rfl).two.2
  have d0 := Sub.cell (Bb.out.at 4 rfl).two.1
  have d1 := Sub.cell (Bb.out.at 4 rfl).two.2
  have hne := Sub.one wb
  go_wp2_with fail
  refine wp_region_sub (by kernel_rfl) (by kernel_rfl) ?_
  repeat (go_big_quiet_step (fail))
  go_big_quiet_step ((go_at_call 10; exact sub_call (HV.out _)))
  repeat (go_big_quiet_step (fail))
  go_big_quiet_step ((go_at_call 11; exact sub_call (HVR.out _)))
  repeat (go_big_quiet_step (fail))
  go_big_quiet_step ((go_at_call 12; exact sub_call (HW1.out _)))
  repeat (go_big_quiet_step (fail))
  go_big_quiet_step ((go_at_call 13; exact sub_call (HW2.out _)))
  repeat (go_big_quiet_step (fail))
  go_big_quiet_step ((go_at_call 12; exact sub_call (HWS.out _)))
  repeat (go_big_quiet_step (fail))
  go_big_quiet_step ((go_at_call 11; exact sub_call (HVR.out _)))
  repeat (go_big_quiet_step (fail))
  refine wpQuiet_nil ?_
  rintro _ ⟨⟨wc, hbc⟩, rfl⟩
  have qc := on_below qb hbc
  have Bc := hide (Bb.out.on hbc)
  clear hbc qb Bb c0 c1 d0 d1 hne
  have c0 := (Bc.out.at 3 rfl).two.1
  have c1 := (Bc.out.at 3 rfl).two.2
  go_wp2_with fail
  refine (HVR.out _).mono ?_
  rintro e wd ⟨rfl, hbd⟩
  have qd := on_below qc hbd
  have Bd := hide (Bc.out.on hbd)
  clear hbd qc Bc c0 c1
  have c0 := (Bd.out.at 3 rfl).two.1
  have c1 := (Bd.out.at 3 rfl).two.2
  have s0 := (Bd.out.at 2 rfl).two.1
  have s1 := (Bd.out.at 2 rfl).two.2
  have p0 := (Bd.out.at 1 rfl).two.1
  have p1 := (Bd.out.at 1 rfl).two.2
  have b0 := (Bd.out.at 0 rfl).two.1
  have b1 := (Bd.out.at 0 rfl).two.2
  go_wp2_with fail
  have c0' := Sub.cell c0
  have c1' := Sub.cell c1
  have s0' := Sub.cell s0
  have s1' := Sub.cell s1
  have hne := Sub.one wd
  refine wp_region_sub (by kernel_rfl) (by kernel_rfl) ?_
  repeat (go_big_quiet_step (fail))
  go_big_quiet_step ((go_at_call 15; exact sub_call (HLR.out _)))
  repeat (go_big_quiet_step (fail))
  refine wpQuiet_nil ?_
  rintro _ ⟨⟨we, hbe⟩, rfl⟩
  have qe := on_below qd hbe
  have Be := hide (Bd.out.on hbe)
  clear hbe qd Bd c0 c1 s0 s1 p0 p1 b0 b1 c0' c1' s0' s1' hne
  have c0 := (Be.out.at 3 rfl).two.1
  have c1 := (Be.out.at 3 rfl).two.2
  have p0 := (Be.out.at 1 rfl).two.1
  have p1 := (Be.out.at 1 rfl).two.2
  have b0 := (Be.out.at 0 rfl).two.1
  have b1 := (Be.out.at 0 rfl).two.2
  go_wp2_with (go_at_call 14; refine (names_any _).mono ?_; rintro e w' ⟨rfl, rfl⟩)
  go_ret
  exact ⟨rfl, qe⟩
set_option maxRecDepth 100000 in
set_option maxHeartbeats 4000000 in
theorem tells_ok (L I : Nat) (l' i' : Int) (w : World) (hL : (L : Int) < 48) (h1 : (I : Int) < 281474976710656 / 2 ^ L) :
    Calls Try.prog 3 #[.agg #[.int .i64 (L : Int), .int .i64 (I : Int)], .agg #[.int .i64 l', .int .i64 i']] w fun e w' => e = .returned (.bool true) ∧ Below w.heap.size w w' := by
  obtain ⟨q, hw1, hw2⟩ := within_same (L : Int) (I : Int) l' i'
  have HW1 := hide hw1
  have HW2 := hide hw2
  have hL' : (L : Int) ≤ 48 := by omega
  have hI := (leaf_bd (by omega) h1).2
  have hl := fun w => leaves_yes L I w hL' h1
  have hlr := fun w => leavesR_yes L I w hL' h1
  have hp := fun w => parent_ok L I w hL h1
  have hs := fun w => sibling_ok L I w hL h1
  generalize I * 2 ^ L = x1 at *
  generalize (I + 1) * 2 ^ L = x2 at *
  have hquo : (I : Int) / 2 = ((I / 2 : Nat) : Int) := by omega
  have hne48 : ¬ (L : Int) = 48 := by omega
  by_cases hodd : I % 2 = 1
  · have hrem : ((I : Int)).tmod 2 = 1 := by rw [Int.tmod_eq_emod_of_nonneg (by omega)]; omega
    have hz : ((beside I : Nat) : Int) = (I : Int) - 1 := by unfold beside; rw [if_pos hodd]; omega
    rw [hz] at hs
    generalize hJ : I / 2 = J at *
    have HL := hide hl
    have HLR := hide hlr
    have HP := hide hp
    have HS := hide hs
    clear hl hlr hp hs hw1 hw2 hJ hodd hz
    go_enter Try.func3, Try.ntmps3
    go_wp2_with (first | (refine step_box (cs := c2 (L : Int) (I : Int)) rfl rfl ?_; intro w1 g1 hg1 hle1 hb1; refine step_box (cs := c2 l' i') rfl rfl ?_; intro w2 g2 hg2 hle2 hb2; have q2 := on_below hb1 hb2; have B2 := hide (((Bs.nil w2).push hg2).push (hg1.on hb2)); have c0 := (hg1.on hb2).two.1; have c1 := (hg1.on hb2).two.2; clear hg1 hg2))
    refine (HL.out _).mono ?_
    rintro e w3 ⟨rfl, hb3⟩
    have q3 := on_below q2 hb3
    have B3 := hide (B2.out.on hb3)
    clear hb1 hb2 hb3 q2 B2 hle1 hle2 c0 c1
    go_wp2_with (first | (refine step_alloc zS rfl ?_; intro w4 g4 hg4 hle4 hb4; have HG4 := hide hg4; clear hg4) | (refine step_storeA wS rfl rfl rfl HG4.out rfl (One.c2 (x1 : Int) (x2 : Int)) rfl ?_))
    intro w5 hg5 hbut5
    have q5 := new_below q3 hb4 hle4 hbut5
    have B5 := hide (B3.out.new hb4 hle4 hg5 hbut5)
    clear hb4 hle4 hbut5 q3 B3 hg5 HG4
    have c0 := (B5.out.at 1 rfl).two.1
    have c1 := (B5.out.at 1 rfl).two.2
    go_wp2_with fail
    refine (HP.out _).mono ?_
    rintro e w6 ⟨rfl, hb6⟩
    have q6 := on_below q5 hb6
    have B6 := hide (B5.out.on hb6)
    clear hb6 q5 B5 c0 c1
    go_wp2_with (first | (refine step_alloc zN rfl ?_; intro w7 g7 hg7 hle7 hb7; have HG7 := hide hg7; clear hg7) | (refine step_storeA wN rfl rfl rfl HG7.out rfl (One.c2 ((L : Int) + 1) (J : Int)) rfl ?_))
    intro w8 hg8 hbut8
    have q8 := new_below q6 hb7 hle7 hbut8
    have B8 := hide (B6.out.new hb7 hle7 hg8 hbut8)
    clear hb7 hle7 hbut8 q6 B6 hg8 HG7
    have c0 := (B8.out.at 2 rfl).two.1
    have c1 := (B8.out.at 2 rfl).two.2
    go_wp2_with fail
    refine (HS.out _).mono ?_
    rintro e w9 ⟨rfl, hb9⟩
    have q9 := on_below q8 hb9
    have B9 := hide (B8.out.on hb9)
    clear hb9 q8 B8 c0 c1
    go_wp2_with (first | (refine step_alloc zN rfl ?_; intro wa ga hga hlea hba; have HGa := hide hga; clear hga) | (refine step_storeA wN rfl rfl rfl HGa.out rfl (One.c2 (L : Int) ((I : Int) - 1)) rfl ?_))
    intro wb hgb hbutb
    have qb := new_below q9 hba hlea hbutb
    have Bb := hide (B9.out.new hba hlea hgb hbutb)
    clear hba hlea hbutb q9 B9 hgb HGa
    have c0 := Sub.cell (Bb.out.at 3 rfl).two.1
    have c1 := Sub.cell (Bb.out.at 3 rfl).two.2
    have d0 := Sub.cell (Bb.out.at 4 rfl).two.1
    have d1 := Sub.cell (Bb.out.at 4 rfl).two.2
    have hne := Sub.one wb
    go_wp2_with fail
    refine wp_region_sub (by kernel_rfl) (by kernel_rfl) ?_
    repeat (go_big_quiet_step (fail))
    go_big_quiet_step ((go_at_call 10; exact sub_call (valid_yes L I _ hL' h1)))
    repeat (go_big_quiet_step (fail))
    go_big_quiet_step ((go_at_call 11; exact sub_call (validR_yes L I _ hL' h1)))
    repeat (go_big_quiet_step (fail))
    go_big_quiet_step ((go_at_call 12; exact sub_call (HW1.out _)))
    repeat (go_big_quiet_step (fail))
    go_big_quiet_step ((go_at_call 13; exact sub_call (HW2.out _)))
    repeat (go_big_quiet_step (fail))
    go_big_quiet_step ((go_at_call 12; exact sub_call (within_self L I _ hL' h1)))
    repeat (go_big_quiet_step (fail))
    go_big_quiet_step ((go_at_call 11; exact sub_call (validR_yes L I _ hL' h1)))
    repeat (go_big_quiet_step (fail))
    refine wpQuiet_nil ?_
    rintro _ ⟨⟨wc, hbc⟩, rfl⟩
    have qc := on_below qb hbc
    have Bc := hide (Bb.out.on hbc)
    clear hbc qb Bb c0 c1 d0 d1 hne
    have c0 := (Bc.out.at 3 rfl).two.1
    have c1 := (Bc.out.at 3 rfl).two.2
    go_wp2_with fail
    refine (validR_yes L I _ hL' h1).mono ?_
    rintro e wd ⟨rfl, hbd⟩
    have qd := on_below qc hbd
    have Bd := hide (Bc.out.on hbd)
    clear hbd qc Bc c0 c1
    have c0 := (Bd.out.at 3 rfl).two.1
    have c1 := (Bd.out.at 3 rfl).two.2
    have s0 := (Bd.out.at 2 rfl).two.1
    have s1 := (Bd.out.at 2 rfl).two.2
    have p0 := (Bd.out.at 1 rfl).two.1
    have p1 := (Bd.out.at 1 rfl).two.2
    have b0 := (Bd.out.at 0 rfl).two.1
    have b1 := (Bd.out.at 0 rfl).two.2
    go_wp2_with fail
    have c0' := Sub.cell c0
    have c1' := Sub.cell c1
    have s0' := Sub.cell s0
    have s1' := Sub.cell s1
    have hne := Sub.one wd
    refine wp_region_sub (by kernel_rfl) (by kernel_rfl) ?_
    repeat (go_big_quiet_step (fail))
    go_big_quiet_step ((go_at_call 15; exact sub_call (HLR.out _)))
    repeat (go_big_quiet_step (fail))
    refine wpQuiet_nil ?_
    rintro _ ⟨⟨we, hbe⟩, rfl⟩
    have qe := on_below qd hbe
    have Be := hide (Bd.out.on hbe)
    clear hbe qd Bd c0 c1 s0 s1 p0 p1 b0 b1 c0' c1' s0' s1' hne
    have c0 := (Be.out.at 3 rfl).two.1
    have c1 := (Be.out.at 3 rfl).two.2
    have p0 := (Be.out.at 1 rfl).two.1
    have p1 := (Be.out.at 1 rfl).two.2
    have b0 := (Be.out.at 0 rfl).two.1
    have b1 := (Be.out.at 0 rfl).two.2
    go_wp2
    go_ret
    exact ⟨rfl, qe⟩
  · have hrem : ((I : Int)).tmod 2 = 0 := by rw [Int.tmod_eq_emod_of_nonneg (by omega)]; omega
    have hz : ((beside I : Nat) : Int) = (I : Int) + 1 := by unfold beside; rw [if_neg hodd]; omega
    rw [hz] at hs
    generalize hJ : I / 2 = J at *
    have HL := hide hl
    have HLR := hide hlr
    have HP := hide hp
    have HS := hide hs
    clear hl hlr hp hs hw1 hw2 hJ hodd hz
    go_enter Try.func3, Try.ntmps3
    go_wp2_with (first | (refine step_box (cs := c2 (L : Int) (I : Int)) rfl rfl ?_; intro w1 g1 hg1 hle1 hb1; refine step_box (cs := c2 l' i') rfl rfl ?_; intro w2 g2 hg2 hle2 hb2; have q2 := on_below hb1 hb2; have B2 := hide (((Bs.nil w2).push hg2).push (hg1.on hb2)); have c0 := (hg1.on hb2).two.1; have c1 := (hg1.on hb2).two.2; clear hg1 hg2))
    refine (HL.out _).mono ?_
    rintro e w3 ⟨rfl, hb3⟩
    have q3 := on_below q2 hb3
    have B3 := hide (B2.out.on hb3)
    clear hb1 hb2 hb3 q2 B2 hle1 hle2 c0 c1
    go_wp2_with (first | (refine step_alloc zS rfl ?_; intro w4 g4 hg4 hle4 hb4; have HG4 := hide hg4; clear hg4) | (refine step_storeA wS rfl rfl rfl HG4.out rfl (One.c2 (x1 : Int) (x2 : Int)) rfl ?_))
    intro w5 hg5 hbut5
    have q5 := new_below q3 hb4 hle4 hbut5
    have B5 := hide (B3.out.new hb4 hle4 hg5 hbut5)
    clear hb4 hle4 hbut5 q3 B3 hg5 HG4
    have c0 := (B5.out.at 1 rfl).two.1
    have c1 := (B5.out.at 1 rfl).two.2
    go_wp2_with fail
    refine (HP.out _).mono ?_
    rintro e w6 ⟨rfl, hb6⟩
    have q6 := on_below q5 hb6
    have B6 := hide (B5.out.on hb6)
    clear hb6 q5 B5 c0 c1
    go_wp2_with (first | (refine step_alloc zN rfl ?_; intro w7 g7 hg7 hle7 hb7; have HG7 := hide hg7; clear hg7) | (refine step_storeA wN rfl rfl rfl HG7.out rfl (One.c2 ((L : Int) + 1) (J : Int)) rfl ?_))
    intro w8 hg8 hbut8
    have q8 := new_below q6 hb7 hle7 hbut8
    have B8 := hide (B6.out.new hb7 hle7 hg8 hbut8)
    clear hb7 hle7 hbut8 q6 B6 hg8 HG7
    have c0 := (B8.out.at 2 rfl).two.1
    have c1 := (B8.out.at 2 rfl).two.2
    go_wp2_with fail
    refine (HS.out _).mono ?_
    rintro e w9 ⟨rfl, hb9⟩
    have q9 := on_below q8 hb9
    have B9 := hide (B8.out.on hb9)
    clear hb9 q8 B8 c0 c1
    go_wp2_with (first | (refine step_alloc zN rfl ?_; intro wa ga hga hlea hba; have HGa := hide hga; clear hga) | (refine step_storeA wN rfl rfl rfl HGa.out rfl (One.c2 (L : Int) ((I : Int) + 1)) rfl ?_))
    intro wb hgb hbutb
    have qb := new_below q9 hba hlea hbutb
    have Bb := hide (B9.out.new hba hlea hgb hbutb)
    clear hba hlea hbutb q9 B9 hgb HGa
    have c0 := Sub.cell (Bb.out.at 3 rfl).two.1
    have c1 := Sub.cell (Bb.out.at 3 rfl).two.2
    have d0 := Sub.cell (Bb.out.at 4 rfl).two.1
    have d1 := Sub.cell (Bb.out.at 4 rfl).two.2
    have hne := Sub.one wb
    go_wp2_with fail
    refine wp_region_sub (by kernel_rfl) (by kernel_rfl) ?_
    repeat (go_big_quiet_step (fail))
    go_big_quiet_step ((go_at_call 10; exact sub_call (valid_yes L I _ hL' h1)))
    repeat (go_big_quiet_step (fail))
    go_big_quiet_step ((go_at_call 11; exact sub_call (validR_yes L I _ hL' h1)))
    repeat (go_big_quiet_step (fail))
    go_big_quiet_step ((go_at_call 12; exact sub_call (HW1.out _)))
    repeat (go_big_quiet_step (fail))
    go_big_quiet_step ((go_at_call 13; exact sub_call (HW2.out _)))
    repeat (go_big_quiet_step (fail))
    go_big_quiet_step ((go_at_call 12; exact sub_call (within_self L I _ hL' h1)))
    repeat (go_big_quiet_step (fail))
    go_big_quiet_step ((go_at_call 11; exact sub_call (validR_yes L I _ hL' h1)))
    repeat (go_big_quiet_step (fail))
    refine wpQuiet_nil ?_
    rintro _ ⟨⟨wc, hbc⟩, rfl⟩
    have qc := on_below qb hbc
    have Bc := hide (Bb.out.on hbc)
    clear hbc qb Bb c0 c1 d0 d1 hne
    have c0 := (Bc.out.at 3 rfl).two.1
    have c1 := (Bc.out.at 3 rfl).two.2
    go_wp2_with fail
    refine (validR_yes L I _ hL' h1).mono ?_
    rintro e wd ⟨rfl, hbd⟩
    have qd := on_below qc hbd
    have Bd := hide (Bc.out.on hbd)
    clear hbd qc Bc c0 c1
    have c0 := (Bd.out.at 3 rfl).two.1
    have c1 := (Bd.out.at 3 rfl).two.2
    have s0 := (Bd.out.at 2 rfl).two.1
    have s1 := (Bd.out.at 2 rfl).two.2
    have p0 := (Bd.out.at 1 rfl).two.1
    have p1 := (Bd.out.at 1 rfl).two.2
    have b0 := (Bd.out.at 0 rfl).two.1
    have b1 := (Bd.out.at 0 rfl).two.2
    go_wp2_with fail
    have c0' := Sub.cell c0
    have c1' := Sub.cell c1
    have s0' := Sub.cell s0
    have s1' := Sub.cell s1
    have hne := Sub.one wd
    refine wp_region_sub (by kernel_rfl) (by kernel_rfl) ?_
    repeat (go_big_quiet_step (fail))
    go_big_quiet_step ((go_at_call 15; exact sub_call (HLR.out _)))
    repeat (go_big_quiet_step (fail))
    refine wpQuiet_nil ?_
    rintro _ ⟨⟨we, hbe⟩, rfl⟩
    have qe := on_below qd hbe
    have Be := hide (Bd.out.on hbe)
    clear hbe qd Bd c0 c1 s0 s1 p0 p1 b0 b1 c0' c1' s0' s1' hne
    have c0 := (Be.out.at 3 rfl).two.1
    have c1 := (Be.out.at 3 rfl).two.2
    have p0 := (Be.out.at 1 rfl).two.1
    have p1 := (Be.out.at 1 rfl).two.2
    have b0 := (Be.out.at 0 rfl).two.1
    have b1 := (Be.out.at 0 rfl).two.2
    go_wp2
    go_ret
    exact ⟨rfl, qe⟩

theorem tells_walk (l i l' i' : Int) (w : World) :
    Calls Try.prog 3 #[.agg #[.int .i64 l, .int .i64 i], .agg #[.int .i64 l', .int .i64 i']] w fun e w' => e = .returned (.bool true) ∧ Below w.heap.size w w' := by
  by_cases h : V l i
  · by_cases h48 : l = 48
    · subst h48
      obtain ⟨_, _, h3, h4⟩ := h
      have h5 : i < 1 := by simpa using h4
      obtain rfl : i = 0 := by omega
      exact tells_top l' i' w
    · obtain ⟨L, I, rfl, rfl, hL, h1⟩ := h.nats
      exact tells_ok L I l' i' w (by omega) h1
  · exact tells_no l i l' i' w h

end Go.Proofs.Ytlniffmhihhkcaa
