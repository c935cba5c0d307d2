/-
  Does a node lie within another: the program's answer, and the document's.
-/
import Derived.Test.YtlniffmhihhkcaaNd
namespace Go.Proofs.Ytlniffmhihhkcaa
open Go.RowKit
set_option linter.unusedVariables false

/-- Both ways of saying it. -/
theorem inside_iff (L I L' I' : Nat) : (L ≤ L' ∧ I / 2 ^ (L' - L) = I') ↔ (I' * 2 ^ L' ≤ I * 2 ^ L ∧ (I + 1) * 2 ^ L ≤ (I' + 1) * 2 ^ L') := by
  have hp := Nat.two_pow_pos L
  by_cases h : L ≤ L'
  · obtain ⟨d, rfl⟩ : ∃ d, L' = L + d := ⟨L' - L, by omega⟩
    have hd := Nat.two_pow_pos d
    rw [show L + d - L = d by omega, Nat.pow_add]
    have e1 : ∀ x, x * (2 ^ L * 2 ^ d) = (x * 2 ^ d) * 2 ^ L := fun x => by rw [Nat.mul_comm (2 ^ L), Nat.mul_assoc]
    rw [e1, e1, Nat.mul_le_mul_right_iff hp, Nat.mul_le_mul_right_iff hp, Nat.div_eq_iff hd]
    constructor
    · rintro ⟨_, h1, h2⟩
      rw [Nat.add_mul, Nat.one_mul]
      omega
    · rintro ⟨h1, h2⟩
      rw [Nat.add_mul, Nat.one_mul] at h2
      omega
  · refine ⟨fun h1 => absurd h1.1 h, fun ⟨h1, h2⟩ => ?_⟩
    obtain ⟨d, rfl⟩ : ∃ d, L = L' + 1 + d := ⟨L - L' - 1, by omega⟩
    have hp' := Nat.two_pow_pos L'
    have hd := Nat.two_pow_pos d
    exfalso
    rw [Nat.add_mul, Nat.one_mul] at h2
    rw [Nat.add_mul, Nat.one_mul] at h2
    have h3 : 2 ^ (L' + 1 + d) = 2 ^ L' * 2 * 2 ^ d := by rw [Nat.pow_add, Nat.pow_succ]
    have h4 : 2 ^ L' * 2 * 1 ≤ 2 ^ L' * 2 * 2 ^ d := Nat.mul_le_mul_left _ hd
    omega

set_option maxHeartbeats 1000000 in
theorem within_no1 (l i l' i' : Int) (w : World) (h : ¬ V l i) :
    Calls Try.prog 12 #[.agg #[.int .i64 l, .int .i64 i], .agg #[.int .i64 l', .int .i64 i']] w fun e w' => e = .returned (.bool false) ∧ Below w.heap.size w w' := by
  have HV := hide h
  clear h
  go_enter Try.func12, Try.ntmps12
  go_wp2_with (first | (refine step_box (cs := c2 l i) rfl rfl ?_; intro w1 g1 hg1 hle1 hb1; refine step_box (cs := c2 l' i') rfl rfl ?_; intro w2 g2 hg2 hle2 hb2; have c0 := Sub.cell (hg1.on hb2).two.1; have c1 := Sub.cell (hg1.on hb2).two.2; have d0 := Sub.cell hg2.two.1; have d1 := Sub.cell hg2.two.2; clear hg1 hg2))
  have hne := Sub.one w2
  refine wp_region_sub (by kernel_rfl) (by kernel_rfl) ?_
  repeat (go_big_quiet_step (fail))
  go_big_quiet_step ((go_at_call 10; exact sub_call (valid_no l i _ HV.out)))
  repeat (go_big_quiet_step (fail))


  refine wpQuiet_nil ?_
  rintro _ ⟨⟨W, hW⟩, rfl⟩
  go_wp2
  go_ret
  exact ⟨rfl, (hb1.trans (hb2.mono hb1.size)).trans (hW.mono (hb1.trans (hb2.mono hb1.size)).size)⟩
set_option maxHeartbeats 1000000 in
theorem within_no2 (L I : Nat) (l' i' : Int) (w : World) (hL : (L : Int) ≤ 48) (h1 : (I : Int) < 281474976710656 / 2 ^ L) (h : ¬ V l' i') :
    Calls Try.prog 12 #[.agg #[.int .i64 (L : Int), .int .i64 (I : Int)], .agg #[.int .i64 l', .int .i64 i']] w fun e w' => e = .returned (.bool false) ∧ Below w.heap.size w w' := by
  have HV := hide h
  clear h
  go_enter Try.func12, Try.ntmps12
  go_wp2_with (first | (refine step_box (cs := c2 (L : Int) (I : Int)) rfl rfl ?_; intro w1 g1 hg1 hle1 hb1; refine step_box (cs := c2 l' i') rfl rfl ?_; intro w2 g2 hg2 hle2 hb2; have c0 := Sub.cell (hg1.on hb2).two.1; have c1 := Sub.cell (hg1.on hb2).two.2; have d0 := Sub.cell hg2.two.1; have d1 := Sub.cell hg2.two.2; clear hg1 hg2))
  have hne := Sub.one w2
  refine wp_region_sub (by kernel_rfl) (by kernel_rfl) ?_
  repeat (go_big_quiet_step (fail))
  go_big_quiet_step ((go_at_call 10; exact sub_call (valid_yes L I _ hL h1)))
  repeat (go_big_quiet_step (fail))
  go_big_quiet_step ((go_at_call 10; exact sub_call (valid_no l' i' _ HV.out))); repeat (go_big_quiet_step (fail))

  refine wpQuiet_nil ?_
  rintro _ ⟨⟨W, hW⟩, rfl⟩
  go_wp2
  go_ret
  exact ⟨rfl, (hb1.trans (hb2.mono hb1.size)).trans (hW.mono (hb1.trans (hb2.mono hb1.size)).size)⟩
set_option maxHeartbeats 1000000 in
theorem within_yes (L I M J : Nat) (q : Bool) (hq : q = decide (L ≤ M ∧ I / 2 ^ (M - L) = J)) (w : World) (hL : (L : Int) ≤ 48) (h1 : (I : Int) < 281474976710656 / 2 ^ L) (hM : (M : Int) ≤ 48) (h2 : (J : Int) < 281474976710656 / 2 ^ M) :
    Calls Try.prog 12 #[.agg #[.int .i64 (L : Int), .int .i64 (I : Int)], .agg #[.int .i64 (M : Int), .int .i64 (J : Int)]] w fun e w' => e = .returned (.bool q) ∧ Below w.heap.size w w' := by
  by_cases hLM : L ≤ M
  · have hI := (leaf_bd (by omega) h1).2
    have hA := fun v => above_any L I M v hL (by omega) hLM (by omega)
    have hc : (L : Int) ≤ (M : Int) := by omega
    generalize hX : I / 2 ^ (M - L) = X at *
    have HA := hide hA
    clear hA hX
    by_cases hXJ : X = J
    · have hXJ' : ((X : Int) == (J : Int)) = true := by simp [hXJ]
      obtain rfl : q = true := by rw [hq]; simp [hLM, hXJ]
      clear hq
      go_enter Try.func12, Try.ntmps12
      go_wp2_with (first | (refine step_box (cs := c2 (L : Int) (I : Int)) rfl rfl ?_; intro w1 g1 hg1 hle1 hb1; refine step_box (cs := c2 (M : Int) (J : Int)) rfl rfl ?_; intro w2 g2 hg2 hle2 hb2; have c0 := Sub.cell (hg1.on hb2).two.1; have c1 := Sub.cell (hg1.on hb2).two.2; have d0 := Sub.cell hg2.two.1; have d1 := Sub.cell hg2.two.2; clear hg1 hg2))
      have hne := Sub.one w2
      refine wp_region_sub (by kernel_rfl) (by kernel_rfl) ?_
      repeat (go_big_quiet_step (fail))
      go_big_quiet_step ((go_at_call 10; exact sub_call (valid_yes L I _ hL h1)))
      repeat (go_big_quiet_step (fail))
      go_big_quiet_step ((go_at_call 10; exact sub_call (valid_yes M J _ hM h2))); repeat (go_big_quiet_step (fail))
      go_big_quiet_step ((go_at_call 24; exact sub_call (HA.out _))); repeat (go_big_quiet_step (fail))
      refine wpQuiet_nil ?_
      rintro _ ⟨⟨W, hW⟩, rfl⟩
      go_wp2
      go_ret
      exact ⟨rfl, (hb1.trans (hb2.mono hb1.size)).trans (hW.mono (hb1.trans (hb2.mono hb1.size)).size)⟩
    · have hXJ' : ((X : Int) == (J : Int)) = false := by simp; omega
      have hXJ2 : ¬ ((X : Int) = (J : Int)) := by omega
      obtain rfl : q = false := by rw [hq]; simp [hXJ]
      clear hq
      go_enter Try.func12, Try.ntmps12
      go_wp2_with (first | (refine step_box (cs := c2 (L : Int) (I : Int)) rfl rfl ?_; intro w1 g1 hg1 hle1 hb1; refine step_box (cs := c2 (M : Int) (J : Int)) rfl rfl ?_; intro w2 g2 hg2 hle2 hb2; have c0 := Sub.cell (hg1.on hb2).two.1; have c1 := Sub.cell (hg1.on hb2).two.2; have d0 := Sub.cell hg2.two.1; have d1 := Sub.cell hg2.two.2; clear hg1 hg2))
      have hne := Sub.one w2
      refine wp_region_sub (by kernel_rfl) (by kernel_rfl) ?_
      repeat (go_big_quiet_step (fail))
      go_big_quiet_step ((go_at_call 10; exact sub_call (valid_yes L I _ hL h1)))
      repeat (go_big_quiet_step (fail))
      go_big_quiet_step ((go_at_call 10; exact sub_call (valid_yes M J _ hM h2))); repeat (go_big_quiet_step (fail))
      go_big_quiet_step ((go_at_call 24; exact sub_call (HA.out _))); repeat (go_big_quiet_step (fail))
      refine wpQuiet_nil ?_
      rintro _ ⟨⟨W, hW⟩, rfl⟩
      go_wp2
      go_ret
      exact ⟨rfl, (hb1.trans (hb2.mono hb1.size)).trans (hW.mono (hb1.trans (hb2.mono hb1.size)).size)⟩
  · have hc : decide ((L : Int) ≤ (M : Int)) = false := by simp; omega
    obtain rfl : q = false := by rw [hq]; simp [hLM]
    clear hq
    go_enter Try.func12, Try.ntmps12
    go_wp2_with (first | (refine step_box (cs := c2 (L : Int) (I : Int)) rfl rfl ?_; intro w1 g1 hg1 hle1 hb1; refine step_box (cs := c2 (M : Int) (J : Int)) rfl rfl ?_; intro w2 g2 hg2 hle2 hb2; have c0 := Sub.cell (hg1.on hb2).two.1; have c1 := Sub.cell (hg1.on hb2).two.2; have d0 := Sub.cell hg2.two.1; have d1 := Sub.cell hg2.two.2; clear hg1 hg2))
    have hne := Sub.one w2
    refine wp_region_sub (by kernel_rfl) (by kernel_rfl) ?_
    repeat (go_big_quiet_step (fail))
    go_big_quiet_step ((go_at_call 10; exact sub_call (valid_yes L I _ hL h1)))
    repeat (go_big_quiet_step (fail))
    go_big_quiet_step ((go_at_call 10; exact sub_call (valid_yes M J _ hM h2))); repeat (go_big_quiet_step (fail))

    refine wpQuiet_nil ?_
    rintro _ ⟨⟨W, hW⟩, rfl⟩
    go_wp2
    go_ret
    exact ⟨rfl, (hb1.trans (hb2.mono hb1.size)).trans (hW.mono (hb1.trans (hb2.mono hb1.size)).size)⟩

set_option maxHeartbeats 1000000 in
theorem withinR_no1 (l i l' i' : Int) (w : World) (h : ¬ V l i) :
    Calls Try.prog 13 #[.agg #[.int .i64 l, .int .i64 i], .agg #[.int .i64 l', .int .i64 i']] w fun e w' => e = .returned (.bool false) ∧ Below w.heap.size w w' := by
  have HV := hide h
  clear h
  go_enter Try.func13, Try.ntmps13
  go_wp2_with (first | (refine step_box (cs := c2 l i) rfl rfl ?_; intro w1 g1 hg1 hle1 hb1; refine step_box (cs := c2 l' i') rfl rfl ?_; intro w2 g2 hg2 hle2 hb2; have q2 := hb1.trans (hb2.mono hb1.size); have c0 := (hg1.on hb2).two.1; have c1 := (hg1.on hb2).two.2; have d0 := hg2.two.1; have d1 := hg2.two.2; clear hg1 hg2))
  refine (validR_no l i _ HV.out).mono ?_
  rintro e w3 ⟨rfl, hb3⟩
  have q3 := q2.trans (hb3.mono q2.size)
  replace c0 := cell_kept c0 hb3
  replace c1 := cell_kept c1 hb3
  replace d0 := cell_kept d0 hb3
  replace d1 := cell_kept d1 hb3
  clear hb3 q2
  go_wp2
  go_ret
  exact ⟨rfl, q3⟩
set_option maxHeartbeats 1000000 in
theorem withinR_no2 (L I : Nat) (l' i' : Int) (w : World) (hL : (L : Int) ≤ 48) (h1 : (I : Int) < 281474976710656 / 2 ^ L) (h : ¬ V l' i') :
    Calls Try.prog 13 #[.agg #[.int .i64 (L : Int), .int .i64 (I : Int)], .agg #[.int .i64 l', .int .i64 i']] w fun e w' => e = .returned (.bool false) ∧ Below w.heap.size w w' := by
  have HV := hide h
  clear h
  go_enter Try.func13, Try.ntmps13
  go_wp2_with (first | (refine step_box (cs := c2 (L : Int) (I : Int)) rfl rfl ?_; intro w1 g1 hg1 hle1 hb1; refine step_box (cs := c2 l' i') rfl rfl ?_; intro w2 g2 hg2 hle2 hb2; have q2 := hb1.trans (hb2.mono hb1.size); have c0 := (hg1.on hb2).two.1; have c1 := (hg1.on hb2).two.2; have d0 := hg2.two.1; have d1 := hg2.two.2; clear hg1 hg2))
  refine (validR_yes L I _ hL h1).mono ?_
  rintro e w3 ⟨rfl, hb3⟩
  have q3 := q2.trans (hb3.mono q2.size)
  replace c0 := cell_kept c0 hb3
  replace c1 := cell_kept c1 hb3
  replace d0 := cell_kept d0 hb3
  replace d1 := cell_kept d1 hb3
  clear hb3 q2
  go_wp2_with fail
  refine (validR_no l' i' _ HV.out).mono ?_
  rintro e w4 ⟨rfl, hb4⟩
  have q4 := q3.trans (hb4.mono q3.size)
  go_wp2
  go_ret
  exact ⟨rfl, q4⟩
set_option maxHeartbeats 1000000 in
theorem withinR_yes (L I M J : Nat) (q : Bool) (hq : q = decide (J * 2 ^ M ≤ I * 2 ^ L ∧ (I + 1) * 2 ^ L ≤ (J + 1) * 2 ^ M)) (w : World) (hL : (L : Int) ≤ 48) (h1 : (I : Int) < 281474976710656 / 2 ^ L) (hM : (M : Int) ≤ 48) (h2 : (J : Int) < 281474976710656 / 2 ^ M) :
    Calls Try.prog 13 #[.agg #[.int .i64 (L : Int), .int .i64 (I : Int)], .agg #[.int .i64 (M : Int), .int .i64 (J : Int)]] w fun e w' => e = .returned (.bool q) ∧ Below w.heap.size w w' := by
  have hA := fun v => leavesR_yes L I v hL h1
  have hB := fun v => leavesR_yes M J v hM h2
  generalize I * 2 ^ L = x1 at *
  generalize (I + 1) * 2 ^ L = x2 at *
  generalize J * 2 ^ M = y1 at *
  generalize (J + 1) * 2 ^ M = y2 at *
  have HA := hide hA
  have HB := hide hB
  clear hA hB
  by_cases hc : y1 ≤ x1
  · have hc' : (x1 : Int) ≥ (y1 : Int) := by omega
    by_cases hd : x2 ≤ y2
    · have hd' : (x2 : Int) ≤ (y2 : Int) := by omega
      obtain rfl : q = true := by rw [hq]; simp [hc, hd]
      clear hq hc hd
      go_enter Try.func13, Try.ntmps13
      go_wp2_with (first | (refine step_box (cs := c2 (L : Int) (I : Int)) rfl rfl ?_; intro w1 g1 hg1 hle1 hb1; refine step_box (cs := c2 (M : Int) (J : Int)) rfl rfl ?_; intro w2 g2 hg2 hle2 hb2; have q2 := hb1.trans (hb2.mono hb1.size); have c0 := (hg1.on hb2).two.1; have c1 := (hg1.on hb2).two.2; have d0 := hg2.two.1; have d1 := hg2.two.2; clear hg1 hg2))
      refine (validR_yes L I _ hL h1).mono ?_
      rintro e w3 ⟨rfl, hb3⟩
      have q3 := q2.trans (hb3.mono q2.size)
      replace c0 := cell_kept c0 hb3
      replace c1 := cell_kept c1 hb3
      replace d0 := cell_kept d0 hb3
      replace d1 := cell_kept d1 hb3
      clear hb3 q2
      go_wp2_with fail
      refine (validR_yes M J _ hM h2).mono ?_
      rintro e w4 ⟨rfl, hb4⟩
      have q4 := q3.trans (hb4.mono q3.size)
      replace c0 := cell_kept c0 hb4
      replace c1 := cell_kept c1 hb4
      replace d0 := cell_kept d0 hb4
      replace d1 := cell_kept d1 hb4
      clear hb4 q3
      go_wp2_with fail
      refine (HA.out _).mono ?_
      rintro e w5 ⟨rfl, hb5⟩
      have q5 := q4.trans (hb5.mono q4.size)
      replace c0 := cell_kept c0 hb5
      replace c1 := cell_kept c1 hb5
      replace d0 := cell_kept d0 hb5
      replace d1 := cell_kept d1 hb5
      clear hb5 q4
      go_wp2_with (first | (refine step_alloc zS rfl ?_; intro w6 g6 hg6 hle6 hb6; have HG6 := hide hg6; clear hg6; have D0 := hide (cell_kept d0 hb6); have D1 := hide (cell_kept d1 hb6)) | (refine step_storeA wS rfl rfl rfl HG6.out rfl (One.c2 (x1 : Int) (x2 : Int)) rfl ?_))
      intro w7 hg7 hbut7
      have q6 := q5.trans (hb6.mono q5.size)
      have q7 := q6.trans (hbut7.below (Nat.le_trans q5.size hle6))
      have e0 := hg7.two.1
      have e1 := hg7.two.2
      have dlt : g2 < w5.heap.size := World.block_lt_of_cell? w5 _ d0
      replace d0 : w7.cell? ⟨g2, 0, none⟩ = some (.int .i64 (M : Int)) := by rw [World.cell?_of_block (w := w6) (hbut7.block g2 (by omega))]; exact D0.out
      replace d1 : w7.cell? ⟨g2, 1, none⟩ = some (.int .i64 (J : Int)) := by rw [World.cell?_of_block (w := w6) (hbut7.block g2 (by omega))]; exact D1.out
      clear hbut7 hb6 c0 c1 D0 D1 q5 q6
      go_wp2_with fail
      refine (HB.out _).mono ?_
      rintro e w8 ⟨rfl, hb8⟩
      have q8 := q7.trans (hb8.mono q7.size)
      replace e0 := cell_kept e0 hb8
      replace e1 := cell_kept e1 hb8
      clear q7 d0 d1
      have elt : g6 < w8.heap.size := World.block_lt_of_cell? w8 _ e0
      go_wp2_with (first | (refine step_alloc zS rfl ?_; intro w9 g9 hg9 hle9 hb9; have HG9 := hide hg9; clear hg9) | (refine step_storeA wS rfl rfl rfl HG9.out rfl (One.c2 (y1 : Int) (y2 : Int)) rfl ?_))
      intro wa hga hbuta
      have q9 := q8.trans (hb9.mono q8.size)
      have qa := q9.trans (hbuta.below (Nat.le_trans q8.size hle9))
      have f0 := hga.two.1
      have f1 := hga.two.2
      replace e0 : wa.cell? ⟨g6, 0, none⟩ = some (.int .i64 (x1 : Int)) := by rw [World.cell?_of_block (w := w9) (hbuta.block g6 (by omega))]; exact cell_kept e0 hb9
      replace e1 : wa.cell? ⟨g6, 1, none⟩ = some (.int .i64 (x2 : Int)) := by rw [World.cell?_of_block (w := w9) (hbuta.block g6 (by omega))]; exact cell_kept e1 hb9
      clear hbuta hb9 q8 q9
      go_wp2
      go_ret
      exact ⟨rfl, qa⟩
    · have hd' : ¬ (x2 : Int) ≤ (y2 : Int) := by omega
      obtain rfl : q = false := by rw [hq]; simp [hd]
      clear hq hc
      go_enter Try.func13, Try.ntmps13
      go_wp2_with (first | (refine step_box (cs := c2 (L : Int) (I : Int)) rfl rfl ?_; intro w1 g1 hg1 hle1 hb1; refine step_box (cs := c2 (M : Int) (J : Int)) rfl rfl ?_; intro w2 g2 hg2 hle2 hb2; have q2 := hb1.trans (hb2.mono hb1.size); have c0 := (hg1.on hb2).two.1; have c1 := (hg1.on hb2).two.2; have d0 := hg2.two.1; have d1 := hg2.two.2; clear hg1 hg2))
      refine (validR_yes L I _ hL h1).mono ?_
      rintro e w3 ⟨rfl, hb3⟩
      have q3 := q2.trans (hb3.mono q2.size)
      replace c0 := cell_kept c0 hb3
      replace c1 := cell_kept c1 hb3
      replace d0 := cell_kept d0 hb3
      replace d1 := cell_kept d1 hb3
      clear hb3 q2
      go_wp2_with fail
      refine (validR_yes M J _ hM h2).mono ?_
      rintro e w4 ⟨rfl, hb4⟩
      have q4 := q3.trans (hb4.mono q3.size)
      replace c0 := cell_kept c0 hb4
      replace c1 := cell_kept c1 hb4
      replace d0 := cell_kept d0 hb4
      replace d1 := cell_kept d1 hb4
      clear hb4 q3
      go_wp2_with fail
      refine (HA.out _).mono ?_
      rintro e w5 ⟨rfl, hb5⟩
      have q5 := q4.trans (hb5.mono q4.size)
      replace c0 := cell_kept c0 hb5
      replace c1 := cell_kept c1 hb5
      replace d0 := cell_kept d0 hb5
      replace d1 := cell_kept d1 hb5
      clear hb5 q4
      go_wp2_with (first | (refine step_alloc zS rfl ?_; intro w6 g6 hg6 hle6 hb6; have HG6 := hide hg6; clear hg6; have D0 := hide (cell_kept d0 hb6); have D1 := hide (cell_kept d1 hb6)) | (refine step_storeA wS rfl rfl rfl HG6.out rfl (One.c2 (x1 : Int) (x2 : Int)) rfl ?_))
      intro w7 hg7 hbut7
      have q6 := q5.trans (hb6.mono q5.size)
      have q7 := q6.trans (hbut7.below (Nat.le_trans q5.size hle6))
      have e0 := hg7.two.1
      have e1 := hg7.two.2
      have dlt : g2 < w5.heap.size := World.block_lt_of_cell? w5 _ d0
      replace d0 : w7.cell? ⟨g2, 0, none⟩ = some (.int .i64 (M : Int)) := by rw [World.cell?_of_block (w := w6) (hbut7.block g2 (by omega))]; exact D0.out
      replace d1 : w7.cell? ⟨g2, 1, none⟩ = some (.int .i64 (J : Int)) := by rw [World.cell?_of_block (w := w6) (hbut7.block g2 (by omega))]; exact D1.out
      clear hbut7 hb6 c0 c1 D0 D1 q5 q6
      go_wp2_with fail
      refine (HB.out _).mono ?_
      rintro e w8 ⟨rfl, hb8⟩
      have q8 := q7.trans (hb8.mono q7.size)
      replace e0 := cell_kept e0 hb8
      replace e1 := cell_kept e1 hb8
      clear q7 d0 d1
      have elt : g6 < w8.heap.size := World.block_lt_of_cell? w8 _ e0
      go_wp2_with (first | (refine step_alloc zS rfl ?_; intro w9 g9 hg9 hle9 hb9; have HG9 := hide hg9; clear hg9) | (refine step_storeA wS rfl rfl rfl HG9.out rfl (One.c2 (y1 : Int) (y2 : Int)) rfl ?_))
      intro wa hga hbuta
      have q9 := q8.trans (hb9.mono q8.size)
      have qa := q9.trans (hbuta.below (Nat.le_trans q8.size hle9))
      have f0 := hga.two.1
      have f1 := hga.two.2
      replace e0 : wa.cell? ⟨g6, 0, none⟩ = some (.int .i64 (x1 : Int)) := by rw [World.cell?_of_block (w := w9) (hbuta.block g6 (by omega))]; exact cell_kept e0 hb9
      replace e1 : wa.cell? ⟨g6, 1, none⟩ = some (.int .i64 (x2 : Int)) := by rw [World.cell?_of_block (w := w9) (hbuta.block g6 (by omega))]; exact cell_kept e1 hb9
      clear hbuta hb9 q8 q9
      go_wp2
      go_ret
      exact ⟨rfl, qa⟩
  · have hc' : ¬ (x1 : Int) ≥ (y1 : Int) := by omega
    obtain rfl : q = false := by rw [hq]; simp [hc]
    clear hq hc
    go_enter Try.func13, Try.ntmps13
    go_wp2_with (first | (refine step_box (cs := c2 (L : Int) (I : Int)) rfl rfl ?_; intro w1 g1 hg1 hle1 hb1; refine step_box (cs := c2 (M : Int) (J : Int)) rfl rfl ?_; intro w2 g2 hg2 hle2 hb2; have q2 := hb1.trans (hb2.mono hb1.size); have c0 := (hg1.on hb2).two.1; have c1 := (hg1.on hb2).two.2; have d0 := hg2.two.1; have d1 := hg2.two.2; clear hg1 hg2))
    refine (validR_yes L I _ hL h1).mono ?_
    rintro e w3 ⟨rfl, hb3⟩
    have q3 := q2.trans (hb3.mono q2.size)
    replace c0 := cell_kept c0 hb3
    replace c1 := cell_kept c1 hb3
    replace d0 := cell_kept d0 hb3
    replace d1 := cell_kept d1 hb3
    clear hb3 q2
    go_wp2_with fail
    refine (validR_yes M J _ hM h2).mono ?_
    rintro e w4 ⟨rfl, hb4⟩
    have q4 := q3.trans (hb4.mono q3.size)
    replace c0 := cell_kept c0 hb4
    replace c1 := cell_kept c1 hb4
    replace d0 := cell_kept d0 hb4
    replace d1 := cell_kept d1 hb4
    clear hb4 q3
    go_wp2_with fail
    refine (HA.out _).mono ?_
    rintro e w5 ⟨rfl, hb5⟩
    have q5 := q4.trans (hb5.mono q4.size)
    replace c0 := cell_kept c0 hb5
    replace c1 := cell_kept c1 hb5
    replace d0 := cell_kept d0 hb5
    replace d1 := cell_kept d1 hb5
    clear hb5 q4
    go_wp2_with (first | (refine step_alloc zS rfl ?_; intro w6 g6 hg6 hle6 hb6; have HG6 := hide hg6; clear hg6; have D0 := hide (cell_kept d0 hb6); have D1 := hide (cell_kept d1 hb6)) | (refine step_storeA wS rfl rfl rfl HG6.out rfl (One.c2 (x1 : Int) (x2 : Int)) rfl ?_))
    intro w7 hg7 hbut7
    have q6 := q5.trans (hb6.mono q5.size)
    have q7 := q6.trans (hbut7.below (Nat.le_trans q5.size hle6))
    have e0 := hg7.two.1
    have e1 := hg7.two.2
    have dlt : g2 < w5.heap.size := World.block_lt_of_cell? w5 _ d0
    replace d0 : w7.cell? ⟨g2, 0, none⟩ = some (.int .i64 (M : Int)) := by rw [World.cell?_of_block (w := w6) (hbut7.block g2 (by omega))]; exact D0.out
    replace d1 : w7.cell? ⟨g2, 1, none⟩ = some (.int .i64 (J : Int)) := by rw [World.cell?_of_block (w := w6) (hbut7.block g2 (by omega))]; exact D1.out
    clear hbut7 hb6 c0 c1 D0 D1 q5 q6
    go_wp2_with fail
    refine (HB.out _).mono ?_
    rintro e w8 ⟨rfl, hb8⟩
    have q8 := q7.trans (hb8.mono q7.size)
    replace e0 := cell_kept e0 hb8
    replace e1 := cell_kept e1 hb8
    clear q7 d0 d1
    have elt : g6 < w8.heap.size := World.block_lt_of_cell? w8 _ e0
    go_wp2_with (first | (refine step_alloc zS rfl ?_; intro w9 g9 hg9 hle9 hb9; have HG9 := hide hg9; clear hg9) | (refine step_storeA wS rfl rfl rfl HG9.out rfl (One.c2 (y1 : Int) (y2 : Int)) rfl ?_))
    intro wa hga hbuta
    have q9 := q8.trans (hb9.mono q8.size)
    have qa := q9.trans (hbuta.below (Nat.le_trans q8.size hle9))
    have f0 := hga.two.1
    have f1 := hga.two.2
    replace e0 : wa.cell? ⟨g6, 0, none⟩ = some (.int .i64 (x1 : Int)) := by rw [World.cell?_of_block (w := w9) (hbuta.block g6 (by omega))]; exact cell_kept e0 hb9
    replace e1 : wa.cell? ⟨g6, 1, none⟩ = some (.int .i64 (x2 : Int)) := by rw [World.cell?_of_block (w := w9) (hbuta.block g6 (by omega))]; exact cell_kept e1 hb9
    clear hbuta hb9 q8 q9
    go_wp2
    go_ret
    exact ⟨rfl, qa⟩

/-- Both tell the same of any two. -/
theorem within_same (l i l' i' : Int) : ∃ q : Bool, (∀ w : World, Calls Try.prog 12 #[.agg #[.int .i64 l, .int .i64 i], .agg #[.int .i64 l', .int .i64 i']] w fun e w' => e = .returned (.bool q) ∧ Below w.heap.size w w') ∧
    (∀ w : World, Calls Try.prog 13 #[.agg #[.int .i64 l, .int .i64 i], .agg #[.int .i64 l', .int .i64 i']] w fun e w' => e = .returned (.bool q) ∧ Below w.heap.size w w') := by
  by_cases h : V l i
  · obtain ⟨L, I, rfl, rfl, hL, h1⟩ := h.nats
    by_cases h' : V l' i'
    · obtain ⟨M, J, rfl, rfl, hM, h2⟩ := h'.nats
      refine ⟨decide (L ≤ M ∧ I / 2 ^ (M - L) = J), fun w => within_yes L I M J _ rfl w (by omega) h1 (by omega) h2, fun w => withinR_yes L I M J _ ?_ w (by omega) h1 (by omega) h2⟩
      exact decide_eq_decide.2 (inside_iff L I M J)
    · exact ⟨false, fun w => within_no2 L I l' i' w (by omega) h1 h', fun w => withinR_no2 L I l' i' w (by omega) h1 h'⟩
  · exact ⟨false, fun w => within_no1 l i l' i' w h, fun w => withinR_no1 l i l' i' w h⟩
theorem within_self (L I : Nat) (w : World) (hL : (L : Int) ≤ 48) (h1 : (I : Int) < 281474976710656 / 2 ^ L) : Calls Try.prog 12 #[.agg #[.int .i64 (L : Int), .int .i64 (I : Int)], .agg #[.int .i64 (L : Int), .int .i64 (I : Int)]] w fun e w' => e = .returned (.bool true) ∧ Below w.heap.size w w' :=
  within_yes L I L I true (by simp) w hL h1 hL h1

end Go.Proofs.Ytlniffmhihhkcaa
