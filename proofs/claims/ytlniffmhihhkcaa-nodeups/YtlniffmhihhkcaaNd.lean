/-
  Nodes by level and index: may one be, its leaves, its parent, its sibling; does one lie within another.
-/
import Derived.Test.YtlniffmhihhkcaaNw
import Derived.Below
import Derived.Laws.BitsAllLaws
namespace Go.Proofs.Ytlniffmhihhkcaa
open Go.RowKit
set_option linter.unusedVariables false

/-- A node that may be. -/
def V (l i : Int) : Prop := 0 ≤ l ∧ l ≤ 48 ∧ 0 ≤ i ∧ i < 281474976710656 / 2 ^ l.toNat
theorem below_box (w : World) (o : Obj) (n : Nat) : Below w.heap.size w ((w.alloc o).drewN n) :=
  ((Below.refl _ _).alloc (Nat.le_refl _) _).trans ⟨rfl, rfl, rfl, Nat.le_refl _, fun _ _ => rfl⟩
theorem V.nats {l i : Int} (h : V l i) : ∃ L I : Nat, l = (L : Int) ∧ i = (I : Int) ∧ L ≤ 48 ∧ (I : Int) < 281474976710656 / 2 ^ L := by
  obtain ⟨h1, h2, h3, h4⟩ := h
  exact ⟨l.toNat, i.toNat, by omega, by omega, by omega, by rw [Int.toNat_of_nonneg h3]; exact h4⟩
theorem notV {l i : Int} (h : ¬ V l i) : l < 0 ∨ 48 < l ∨ ∃ L : Nat, l = (L : Int) ∧ (L : Int) ≤ 48 ∧ (i < 0 ∨ (0 ≤ i ∧ ¬ i < 281474976710656 / 2 ^ L)) := by
  by_cases h1 : l < 0
  · exact .inl h1
  · by_cases h2 : 48 < l
    · exact .inr (.inl h2)
    · refine .inr (.inr ⟨l.toNat, by omega, by omega, ?_⟩)
      by_cases h3 : i < 0
      · exact .inl h3
      · exact .inr ⟨by omega, fun h4 => h ⟨by omega, by omega, by omega, h4⟩⟩

set_option maxHeartbeats 1000000 in
theorem valid_yes (L I : Nat) (w : World) (hL : (L : Int) ≤ 48) (h1 : (I : Int) < 281474976710656 / 2 ^ L) :
    Calls Try.prog 10 #[.agg #[.int .i64 (L : Int), .int .i64 (I : Int)]] w fun e w' => e = .returned (.bool true) ∧ Below w.heap.size w w' := by
  go_enter Try.func10, Try.ntmps10
  go_wp2_with fail
  go_quiet (fail)
  go_wp2
  go_ret
  exact ⟨rfl, below_box _ _ _⟩
set_option maxHeartbeats 1000000 in
theorem valid_no (l i : Int) (w : World) (h : ¬ V l i) :
    Calls Try.prog 10 #[.agg #[.int .i64 l, .int .i64 i]] w fun e w' => e = .returned (.bool false) ∧ Below w.heap.size w w' := by
  rcases notV h with h1 | h1 | ⟨L, rfl, h1, h2 | ⟨h2, h3⟩⟩
  · have h2 : decide (0 ≤ l) = false := by simp; omega
    clear h
    go_enter Try.func10, Try.ntmps10
    go_wp2_with fail
    go_quiet (fail)
    go_wp2
    go_ret
    exact ⟨rfl, below_box _ _ _⟩
  · have h2 : 0 ≤ l := by omega
    have h3 : decide (l ≤ 48) = false := by simp; omega
    clear h
    go_enter Try.func10, Try.ntmps10
    go_wp2_with fail
    go_quiet (fail)
    go_wp2
    go_ret
    exact ⟨rfl, below_box _ _ _⟩
  · have h3 : decide (0 ≤ i) = false := by simp; omega
    clear h
    go_enter Try.func10, Try.ntmps10
    go_wp2_with fail
    go_quiet (fail)
    go_wp2
    go_ret
    exact ⟨rfl, below_box _ _ _⟩
  · have h4 : decide (i < 281474976710656 / 2 ^ L) = false := decide_eq_false h3
    clear h
    go_enter Try.func10, Try.ntmps10
    go_wp2_with fail
    go_quiet (fail)
    go_wp2
    go_ret
    exact ⟨rfl, below_box _ _ _⟩

set_option maxHeartbeats 1000000 in
theorem validR_yes (L I : Nat) (w : World) (hL : (L : Int) ≤ 48) (h1 : (I : Int) < 281474976710656 / 2 ^ L) :
    Calls Try.prog 11 #[.agg #[.int .i64 (L : Int), .int .i64 (I : Int)]] w fun e w' => e = .returned (.bool true) ∧ Below w.heap.size w w' := by
  go_enter Try.func11, Try.ntmps11
  go_wp2
  go_ret
  exact ⟨rfl, (Below.refl _ _).alloc (Nat.le_refl _) _⟩
set_option maxHeartbeats 1000000 in
theorem validR_no (l i : Int) (w : World) (h : ¬ V l i) :
    Calls Try.prog 11 #[.agg #[.int .i64 l, .int .i64 i]] w fun e w' => e = .returned (.bool false) ∧ Below w.heap.size w w' := by
  rcases notV h with h1 | h1 | ⟨L, rfl, h1, h2 | ⟨h2, h3⟩⟩
  · have h2 : decide (0 ≤ l) = false := by simp; omega
    clear h
    go_enter Try.func11, Try.ntmps11
    go_wp2
    go_ret
    exact ⟨rfl, (Below.refl _ _).alloc (Nat.le_refl _) _⟩
  · have h2 : 0 ≤ l := by omega
    have h3 : decide (l ≤ 48) = false := by simp; omega
    clear h
    go_enter Try.func11, Try.ntmps11
    go_wp2
    go_ret
    exact ⟨rfl, (Below.refl _ _).alloc (Nat.le_refl _) _⟩
  · have h3 : decide (0 ≤ i) = false := by simp; omega
    clear h
    go_enter Try.func11, Try.ntmps11
    go_wp2
    go_ret
    exact ⟨rfl, (Below.refl _ _).alloc (Nat.le_refl _) _⟩
  · have h4 : decide (i < 281474976710656 / 2 ^ L) = false := decide_eq_false h3
    clear h
    go_enter Try.func11, Try.ntmps11
    go_wp2
    go_ret
    exact ⟨rfl, (Below.refl _ _).alloc (Nat.le_refl _) _⟩

theorem zN : Zeroed 23 (c2 0 0) := fun _ _ _ _ _ _ _ => by kernel_rfl
theorem zS : Zeroed 25 (c2 0 0) := fun _ _ _ _ _ _ _ => by kernel_rfl
theorem wN : Wide 23 2 := ⟨by kernel_rfl, by kernel_rfl⟩
theorem wS : Wide 25 2 := ⟨by kernel_rfl, by kernel_rfl⟩
theorem shr_nat (I K : Nat) : (I : Int) / 2 ^ K = ((I / 2 ^ K : Nat) : Int) := by rw [Int.natCast_ediv, Int.natCast_pow]; rfl
/-- A node's leaves lie below 2^48. -/
theorem leaf_bd {L I : Nat} (hL : L ≤ 48) (h : (I : Int) < 281474976710656 / 2 ^ L) : I * 2 ^ L + 2 ^ L ≤ 281474976710656 ∧ I < 281474976710656 := by
  have h2 : ((281474976710656 : Nat) : Int) / 2 ^ L = ((281474976710656 / 2 ^ L : Nat) : Int) := shr_nat _ _
  have h3 : I < 281474976710656 / 2 ^ L := by
    have h4 : (I : Int) < ((281474976710656 / 2 ^ L : Nat) : Int) := by rw [← h2]; exact h
    omega
  have hp := Nat.two_pow_pos L
  have h5 : (I + 1) * 2 ^ L ≤ 281474976710656 := by
    have := Nat.mul_le_mul_right (2 ^ L) (show I + 1 ≤ 281474976710656 / 2 ^ L from h3)
    exact Nat.le_trans this (Nat.div_mul_le_self _ _)
  rw [Nat.add_mul, Nat.one_mul] at h5
  refine ⟨h5, Nat.lt_of_lt_of_le h3 (Nat.div_le_self _ _)⟩

set_option maxHeartbeats 1000000 in
theorem above_any (L I K : Nat) (w : World) (hL : (L : Int) ≤ 48) (hI : (I : Int) ≤ 281474976710656) (hK : L ≤ K) (hK2 : K ≤ 49) :
    Calls Try.prog 24 #[.agg #[.int .i64 (L : Int), .int .i64 (I : Int)], .int .i64 (K : Int)] w fun e w' => e = .returned (.agg #[.int .i64 (K : Int), .int .i64 ((I / 2 ^ (K - L) : Nat) : Int)]) ∧ Below w.heap.size w w' := by
  have hK3 : wrap64 ((K : Int) - (L : Int)) = ((K - L : Nat) : Int) := by unfold wrap64; omega
  go_enter Try.func24, Try.ntmps24
  go_wp2_with (first | (refine step_box (cs := c2 (L : Int) (I : Int)) rfl rfl ?_; intro w1 g1 hg1 hle1 hb1; obtain ⟨c0, c1⟩ := hg1.two; have HG1 := hide hg1; clear hg1) | (refine step_alloc zN rfl ?_; intro w2 g2 hg2 hle2 hb2; have d0 := cell_kept c0 hb2; have d1 := cell_kept c1 hb2; have HG2 := hide hg2; clear hg2) | (refine step_storeA wN rfl rfl rfl HG2.out rfl (One.c2 (K : Int) ((I : Int) / 2 ^ (K - L))) rfl ?_; intro w3 hg3 hbut3))
  refine bodyPost_ret (results_wide rfl wN _ _ rfl hg3 rfl) rfl ⟨?_, ?_⟩
  · rw [← shr_nat]
  · exact (hb1.trans (hb2.mono hb1.size)).trans (hbut3.below (Nat.le_trans hb1.size hle2))
theorem mul_facts {L I : Nat} (hL : L ≤ 48) (h : (I : Int) < 281474976710656 / 2 ^ L) : IntKind.i64.wrap ((I : Int) * 2 ^ L) = ((I * 2 ^ L : Nat) : Int) ∧ IntKind.i64.wrap ((I : Int) + 1) = (I : Int) + 1 ∧ IntKind.i64.wrap (((I : Int) + 1) * 2 ^ L) = (((I + 1) * 2 ^ L : Nat) : Int) ∧
    wrap64 ((I : Int) * 2 ^ L) = ((I * 2 ^ L : Nat) : Int) ∧ wrap64 ((I : Int) + 1) = (I : Int) + 1 ∧ wrap64 (((I : Int) + 1) * 2 ^ L) = (((I + 1) * 2 ^ L : Nat) : Int) := by
  obtain ⟨h1, h2⟩ := leaf_bd hL h
  have e1 : (I : Int) * 2 ^ L = ((I * 2 ^ L : Nat) : Int) := by rw [Int.natCast_mul, Int.natCast_pow]; rfl
  have e2 : ((I : Int) + 1) * 2 ^ L = (((I + 1) * 2 ^ L : Nat) : Int) := by rw [Int.natCast_mul, Int.natCast_pow]; rfl
  rw [e1, e2]
  rw [Nat.add_mul, Nat.one_mul]
  generalize I * 2 ^ L = b at *
  generalize 2 ^ L = q at *
  refine ⟨?_, ?_, ?_, ?_, ?_, ?_⟩
  · rw [IntKind.wrap_i64]; omega
  · rw [IntKind.wrap_i64]; omega
  · rw [IntKind.wrap_i64]; omega
  · unfold wrap64; omega
  · unfold wrap64; omega
  · unfold wrap64; omega
theorem far_cell {g1 g2 : Nat} (h : g2 ≠ g1) (v : World) (i j : Nat) (x : Value) : (v.setCell ⟨g2, i, none⟩ x).cell? ⟨g1, j, none⟩ = v.cell? ⟨g1, j, none⟩ := World.cell?_setCell_far v _ _ x h
set_option maxHeartbeats 1000000 in
theorem leaves_yes (L I : Nat) (w : World) (hL : (L : Int) ≤ 48) (h1 : (I : Int) < 281474976710656 / 2 ^ L) :
    Calls Try.prog 7 #[.agg #[.int .i64 (L : Int), .int .i64 (I : Int)]] w fun e w' => e = .returned (.tuple #[.agg #[.int .i64 ((I * 2 ^ L : Nat) : Int), .int .i64 (((I + 1) * 2 ^ L : Nat) : Int)], .int .i64 0]) ∧ Below w.heap.size w w' := by
  obtain ⟨f1, f2, f3, _, _, _⟩ := mul_facts (by omega) h1
  generalize I * 2 ^ L = b at *
  generalize (I + 1) * 2 ^ L = b2 at *
  go_enter Try.func7, Try.ntmps7
  go_wp2_with (first | (refine step_box (cs := c2 (L : Int) (I : Int)) rfl rfl ?_; intro w1 g1 hg1 hle1 hb1; obtain ⟨c0, c1⟩ := hg1.two; have HG1 := hide hg1; clear hg1) | (refine step_alloc zS rfl ?_; intro w2 g2 hg2 hle2 hb2; have d0 := cell_kept c0 hb2; have d1 := cell_kept c1 hb2; have HG2 := hide hg2; clear hg2) | (go_at_call 10; refine (valid_yes L I _ hL h1).mono ?_; rintro e w3 ⟨rfl, hb3⟩; have e0 := cell_kept d0 hb3; have e1 := cell_kept d1 hb3; have HG3 := hide (HG2.out.on hb3)))
  have F0 := HG3.out.free 0
  have F1 := HG3.out.free 1
  obtain ⟨X0, X1⟩ := HG3.out.two
  have hne : g2 ≠ g1 := by have := HG1.out.lt; omega
  have far := far_cell hne
  go_region_held3 (fun v : World => v.cell? ⟨g1, 0, none⟩ = some (.int .i64 (L : Int)) ∧ v.cell? ⟨g1, 1, none⟩ = some (.int .i64 (I : Int))) (first | exact ⟨e0, e1⟩ | simp [far, e0, e1]) (fail)
  have HG5 : Blk ((w3.setCell ⟨g2, 0, none⟩ (.int .i64 (b : Int))).setCell ⟨g2, 1, none⟩ (.int .i64 (b2 : Int))).drew g2 25 (c2 (b : Int) (b2 : Int)) := (HG3.out.set 0 _).set 1 _
  go_wp2
  refine bodyPost_ret (results_wide2 rfl wS _ _ rfl HG5 rfl) rfl ⟨rfl, ?_⟩
  exact (((hb1.trans (hb2.mono hb1.size)).trans (hb3.mono (hb1.trans (hb2.mono hb1.size)).size)).trans (((But.setCell _ _ _ _).trans (But.setCell _ _ _ _)).below (Nat.le_trans hb1.size hle2))).drew
set_option maxHeartbeats 1000000 in
theorem leaves_no (l i : Int) (w : World) (h : ¬ V l i) :
    Calls Try.prog 7 #[.agg #[.int .i64 l, .int .i64 i]] w fun e w' => e = .returned (.tuple #[.agg #[.int .i64 0, .int .i64 0], .int .i64 2]) ∧ Below w.heap.size w w' := by
  have HV := hide h
  clear h
  go_enter Try.func7, Try.ntmps7
  go_wp2_with (first | (refine step_box (cs := c2 l i) rfl rfl ?_; intro w1 g1 hg1 hle1 hb1; obtain ⟨c0, c1⟩ := hg1.two; have HG1 := hide hg1; clear hg1) | (refine step_alloc zS rfl ?_; intro w2 g2 hg2 hle2 hb2; have d0 := cell_kept c0 hb2; have d1 := cell_kept c1 hb2; have HG2 := hide hg2; clear hg2) | (go_at_call 10; refine (valid_no l i _ HV.out).mono ?_; rintro e w3 ⟨rfl, hb3⟩; have HG3 := hide (HG2.out.on hb3)) | (refine step_storeA wS rfl rfl rfl HG3.out rfl (One.c2 0 0) rfl ?_; intro w4 hg4 hbut4))
  refine bodyPost_ret (results_wide2 rfl wS _ _ rfl hg4 rfl) rfl ⟨rfl, ?_⟩
  exact ((hb1.trans (hb2.mono hb1.size)).trans (hb3.mono (hb1.trans (hb2.mono hb1.size)).size)).trans (hbut4.below (Nat.le_trans hb1.size hle2))

theorem belowTop_no (l i : Int) (w : World) (h : ¬ V l i) :
    Calls Try.prog 23 #[.agg #[.int .i64 l, .int .i64 i]] w fun e w' => e = .returned (.int .i64 2) ∧ Below w.heap.size w w' := by
  have HV := hide h
  clear h
  go_enter Try.func23, Try.ntmps23
  go_wp2_with (first | (refine step_box (cs := c2 l i) rfl rfl ?_; intro w1 g1 hg1 hle1 hb1; obtain ⟨c0, c1⟩ := hg1.two; have HG1 := hide hg1; clear hg1) | (go_at_call 10; refine (valid_no l i _ HV.out).mono ?_; rintro e w3 ⟨rfl, hb3⟩; have e0 := cell_kept c0 hb3; have e1 := cell_kept c1 hb3))
  go_ret
  exact ⟨rfl, hb1.trans (hb3.mono hb1.size)⟩
theorem belowTop_top (I : Nat) (w : World) (h1 : (I : Int) < 281474976710656 / 2 ^ 48) :
    Calls Try.prog 23 #[.agg #[.int .i64 48, .int .i64 (I : Int)]] w fun e w' => e = .returned (.int .i64 40) ∧ Below w.heap.size w w' := by
  go_enter Try.func23, Try.ntmps23
  go_wp2_with (first | (refine step_box (cs := c2 48 (I : Int)) rfl rfl ?_; intro w1 g1 hg1 hle1 hb1; obtain ⟨c0, c1⟩ := hg1.two; have HG1 := hide hg1; clear hg1) | (go_at_call 10; refine (valid_yes 48 I _ (by decide) h1).mono ?_; rintro e w3 ⟨rfl, hb3⟩; have e0 := cell_kept c0 hb3; have e1 := cell_kept c1 hb3))
  go_ret
  exact ⟨rfl, hb1.trans (hb3.mono hb1.size)⟩
theorem belowTop_ok (L I : Nat) (w : World) (hL : (L : Int) < 48) (h1 : (I : Int) < 281474976710656 / 2 ^ L) :
    Calls Try.prog 23 #[.agg #[.int .i64 (L : Int), .int .i64 (I : Int)]] w fun e w' => e = .returned (.int .i64 0) ∧ Below w.heap.size w w' := by
  have hne : ¬ (L : Int) = 48 := by omega
  go_enter Try.func23, Try.ntmps23
  go_wp2_with (first | (refine step_box (cs := c2 (L : Int) (I : Int)) rfl rfl ?_; intro w1 g1 hg1 hle1 hb1; obtain ⟨c0, c1⟩ := hg1.two; have HG1 := hide hg1; clear hg1) | (go_at_call 10; refine (valid_yes L I _ (by omega) h1).mono ?_; rintro e w3 ⟨rfl, hb3⟩; have e0 := cell_kept c0 hb3; have e1 := cell_kept c1 hb3))
  go_ret
  exact ⟨rfl, hb1.trans (hb3.mono hb1.size)⟩

theorem parent_no (l i : Int) (w : World) (h : ¬ V l i) :
    Calls Try.prog 8 #[.agg #[.int .i64 l, .int .i64 i]] w fun e w' => e = .returned (.tuple #[.agg #[.int .i64 0, .int .i64 0], .int .i64 2]) ∧ Below w.heap.size w w' := by
  have HV := hide h
  clear h
  go_enter Try.func8, Try.ntmps8
  go_wp2_with (first | (refine step_box (cs := c2 l i) rfl rfl ?_; intro w1 g1 hg1 hle1 hb1; obtain ⟨c0, c1⟩ := hg1.two; have HG1 := hide hg1; clear hg1) | (refine step_alloc zN rfl ?_; intro w2 g2 hg2 hle2 hb2; have d0 := cell_kept c0 hb2; have d1 := cell_kept c1 hb2; have HG2 := hide hg2; clear hg2) | (go_at_call 23; refine (belowTop_no l i _ HV.out).mono ?_; rintro e w3 ⟨rfl, hb3⟩; have e0 := cell_kept d0 hb3; have e1 := cell_kept d1 hb3; have HG3 := hide (HG2.out.on hb3)) | (refine step_storeA wN rfl rfl rfl HG3.out rfl (One.c2 0 0) rfl ?_; intro w4 hg4 hbut4))
  refine bodyPost_ret (results_wide2 rfl wN _ _ rfl hg4 rfl) rfl ⟨rfl, ?_⟩
  exact ((hb1.trans (hb2.mono hb1.size)).trans (hb3.mono (hb1.trans (hb2.mono hb1.size)).size)).trans (hbut4.below (Nat.le_trans hb1.size hle2))
theorem parent_top (I : Nat) (w : World) (h1 : (I : Int) < 281474976710656 / 2 ^ 48) :
    Calls Try.prog 8 #[.agg #[.int .i64 48, .int .i64 (I : Int)]] w fun e w' => e = .returned (.tuple #[.agg #[.int .i64 0, .int .i64 0], .int .i64 40]) ∧ Below w.heap.size w w' := by
  go_enter Try.func8, Try.ntmps8
  go_wp2_with (first | (refine step_box (cs := c2 48 (I : Int)) rfl rfl ?_; intro w1 g1 hg1 hle1 hb1; obtain ⟨c0, c1⟩ := hg1.two; have HG1 := hide hg1; clear hg1) | (refine step_alloc zN rfl ?_; intro w2 g2 hg2 hle2 hb2; have d0 := cell_kept c0 hb2; have d1 := cell_kept c1 hb2; have HG2 := hide hg2; clear hg2) | (go_at_call 23; refine (belowTop_top I _ h1).mono ?_; rintro e w3 ⟨rfl, hb3⟩; have e0 := cell_kept d0 hb3; have e1 := cell_kept d1 hb3; have HG3 := hide (HG2.out.on hb3)) | (refine step_storeA wN rfl rfl rfl HG3.out rfl (One.c2 0 0) rfl ?_; intro w4 hg4 hbut4))
  refine bodyPost_ret (results_wide2 rfl wN _ _ rfl hg4 rfl) rfl ⟨rfl, ?_⟩
  exact ((hb1.trans (hb2.mono hb1.size)).trans (hb3.mono (hb1.trans (hb2.mono hb1.size)).size)).trans (hbut4.below (Nat.le_trans hb1.size hle2))
theorem parent_ok (L I : Nat) (w : World) (hL : (L : Int) < 48) (h1 : (I : Int) < 281474976710656 / 2 ^ L) :
    Calls Try.prog 8 #[.agg #[.int .i64 (L : Int), .int .i64 (I : Int)]] w fun e w' => e = .returned (.tuple #[.agg #[.int .i64 ((L : Int) + 1), .int .i64 ((I / 2 : Nat) : Int)], .int .i64 0]) ∧ Below w.heap.size w w' := by
  have hI := (leaf_bd (by omega) h1).2
  have hA := fun v => above_any L I (L + 1) v (by omega) (by omega) (by omega) (by omega)
  rw [show I / 2 ^ (L + 1 - L) = I / 2 by rw [show L + 1 - L = 1 by omega], Int.natCast_add, Int.natCast_one] at hA
  have HA := hide hA
  clear hA
  generalize I / 2 = J at *
  go_enter Try.func8, Try.ntmps8
  go_wp2_with (first | (refine step_box (cs := c2 (L : Int) (I : Int)) rfl rfl ?_; intro w1 g1 hg1 hle1 hb1; obtain ⟨c0, c1⟩ := hg1.two; have HG1 := hide hg1; clear hg1) | (refine step_alloc zN rfl ?_; intro w2 g2 hg2 hle2 hb2; have d0 := cell_kept c0 hb2; have d1 := cell_kept c1 hb2; have HG2 := hide hg2; clear hg2) | (go_at_call 23; refine (belowTop_ok L I _ hL h1).mono ?_; rintro e w3 ⟨rfl, hb3⟩; have e0 := cell_kept d0 hb3; have e1 := cell_kept d1 hb3; have HG3 := hide (HG2.out.on hb3)) | (go_at_call 24; refine (HA.out _).mono ?_; rintro e w4 ⟨rfl, hb4⟩; have HG4 := hide (HG3.out.on hb4)) | (refine step_storeA wN rfl rfl rfl HG4.out rfl (One.c2 ((L : Int) + 1) (J : Int)) rfl ?_; intro w5 hg5 hbut5))
  refine bodyPost_ret (results_wide2 rfl wN _ _ rfl hg5 rfl) rfl ⟨rfl, ?_⟩
  have q2 := hb1.trans (hb2.mono hb1.size)
  have q3 := q2.trans (hb3.mono q2.size)
  have q4 := q3.trans (hb4.mono q3.size)
  exact q4.trans (hbut5.below (Nat.le_trans hb1.size hle2))

/-- The other node with the same parent. -/
def beside (I : Nat) : Nat := if I % 2 = 1 then I - 1 else I + 1
theorem xor_one (I : Nat) : I ^^^ 1 = beside I := by
  unfold beside
  have h1 : (I ^^^ 1) / 2 = I / 2 := by rw [Nat.xor_div_two]; simp
  have h2 : (I ^^^ 1) % 2 = (I % 2) ^^^ 1 := by rw [Nat.xor_mod_two_pow (n := 1)]
  by_cases h : I % 2 = 1
  · rw [if_pos h]
    rw [h] at h2
    have h3 : (1 ^^^ 1 : Nat) = 0 := by decide
    omega
  · rw [if_neg h]
    have h0 : I % 2 = 0 := by omega
    rw [h0] at h2
    have h3 : (0 ^^^ 1 : Nat) = 1 := by decide
    omega
theorem bits_xor1 (I : Nat) (h : I < 281474976710656) : bits BinOp.xor IntKind.i64 (I : Int) 1 = ((beside I : Nat) : Int) := by
  rw [← xor_one]
  have hx : I ^^^ 1 < 2 ^ 49 := Nat.xor_lt_two_pow (by omega) (by decide)
  have h1 : (BitVec.ofInt 64 (I : Int)).toNat = I := by rw [BitVec.ofInt_natCast, BitVec.toNat_ofNat]; omega
  have h2 : (BitVec.ofInt 64 (1 : Int)).toNat = 1 := by decide
  show IntKind.i64.wrap ((BitVec.ofInt 64 (I : Int) ^^^ BitVec.ofInt 64 (1 : Int)).toNat : Int) = _
  rw [BitVec.toNat_xor, h1, h2, IntKind.wrap_i64]
  omega
theorem sibling_no (l i : Int) (w : World) (h : ¬ V l i) :
    Calls Try.prog 9 #[.agg #[.int .i64 l, .int .i64 i]] w fun e w' => e = .returned (.tuple #[.agg #[.int .i64 0, .int .i64 0], .int .i64 2]) ∧ Below w.heap.size w w' := by
  have HV := hide h
  clear h
  go_enter Try.func9, Try.ntmps9
  go_wp2_with (first | (refine step_box (cs := c2 l i) rfl rfl ?_; intro w1 g1 hg1 hle1 hb1; obtain ⟨c0, c1⟩ := hg1.two; have HG1 := hide hg1; clear hg1) | (refine step_alloc zN rfl ?_; intro w2 g2 hg2 hle2 hb2; have d0 := cell_kept c0 hb2; have d1 := cell_kept c1 hb2; have HG2 := hide hg2; clear hg2) | (go_at_call 23; refine (belowTop_no l i _ HV.out).mono ?_; rintro e w3 ⟨rfl, hb3⟩; have e0 := cell_kept d0 hb3; have e1 := cell_kept d1 hb3; have HG3 := hide (HG2.out.on hb3)) | (refine step_storeA wN rfl rfl rfl HG3.out rfl (One.c2 0 0) rfl ?_; intro w4 hg4 hbut4))
  refine bodyPost_ret (results_wide2 rfl wN _ _ rfl hg4 rfl) rfl ⟨rfl, ?_⟩
  exact ((hb1.trans (hb2.mono hb1.size)).trans (hb3.mono (hb1.trans (hb2.mono hb1.size)).size)).trans (hbut4.below (Nat.le_trans hb1.size hle2))
theorem sibling_top (I : Nat) (w : World) (h1 : (I : Int) < 281474976710656 / 2 ^ 48) :
    Calls Try.prog 9 #[.agg #[.int .i64 48, .int .i64 (I : Int)]] w fun e w' => e = .returned (.tuple #[.agg #[.int .i64 0, .int .i64 0], .int .i64 40]) ∧ Below w.heap.size w w' := by
  go_enter Try.func9, Try.ntmps9
  go_wp2_with (first | (refine step_box (cs := c2 48 (I : Int)) rfl rfl ?_; intro w1 g1 hg1 hle1 hb1; obtain ⟨c0, c1⟩ := hg1.two; have HG1 := hide hg1; clear hg1) | (refine step_alloc zN rfl ?_; intro w2 g2 hg2 hle2 hb2; have d0 := cell_kept c0 hb2; have d1 := cell_kept c1 hb2; have HG2 := hide hg2; clear hg2) | (go_at_call 23; refine (belowTop_top I _ h1).mono ?_; rintro e w3 ⟨rfl, hb3⟩; have e0 := cell_kept d0 hb3; have e1 := cell_kept d1 hb3; have HG3 := hide (HG2.out.on hb3)) | (refine step_storeA wN rfl rfl rfl HG3.out rfl (One.c2 0 0) rfl ?_; intro w4 hg4 hbut4))
  refine bodyPost_ret (results_wide2 rfl wN _ _ rfl hg4 rfl) rfl ⟨rfl, ?_⟩
  exact ((hb1.trans (hb2.mono hb1.size)).trans (hb3.mono (hb1.trans (hb2.mono hb1.size)).size)).trans (hbut4.below (Nat.le_trans hb1.size hle2))
theorem sibling_ok (L I : Nat) (w : World) (hL : (L : Int) < 48) (h1 : (I : Int) < 281474976710656 / 2 ^ L) :
    Calls Try.prog 9 #[.agg #[.int .i64 (L : Int), .int .i64 (I : Int)]] w fun e w' => e = .returned (.tuple #[.agg #[.int .i64 (L : Int), .int .i64 ((beside I : Nat) : Int)], .int .i64 0]) ∧ Below w.heap.size w w' := by
  have hx := bits_xor1 I (leaf_bd (by omega) h1).2
  generalize beside I = J at *
  go_enter Try.func9, Try.ntmps9
  go_wp2_with (first | (refine step_box (cs := c2 (L : Int) (I : Int)) rfl rfl ?_; intro w1 g1 hg1 hle1 hb1; obtain ⟨c0, c1⟩ := hg1.two; have HG1 := hide hg1; clear hg1) | (refine step_alloc zN rfl ?_; intro w2 g2 hg2 hle2 hb2; have d0 := cell_kept c0 hb2; have d1 := cell_kept c1 hb2; have HG2 := hide hg2; clear hg2) | (go_at_call 23; refine (belowTop_ok L I _ hL h1).mono ?_; rintro e w3 ⟨rfl, hb3⟩; have e0 := cell_kept d0 hb3; have e1 := cell_kept d1 hb3; have HG3 := hide (HG2.out.on hb3)) | (refine step_storeA wN rfl rfl rfl HG3.out rfl (One.c2 (L : Int) (J : Int)) rfl ?_; intro w4 hg4 hbut4))
  refine bodyPost_ret (results_wide2 rfl wN _ _ rfl hg4 rfl) rfl ⟨rfl, ?_⟩
  exact ((hb1.trans (hb2.mono hb1.size)).trans (hb3.mono (hb1.trans (hb2.mono hb1.size)).size)).trans (hbut4.below (Nat.le_trans hb1.size hle2))

/-- The document's leaves. -/
theorem leavesR_yes (L I : Nat) (w : World) (hL : (L : Int) ≤ 48) (h1 : (I : Int) < 281474976710656 / 2 ^ L) :
    Calls Try.prog 15 #[.agg #[.int .i64 (L : Int), .int .i64 (I : Int)]] w fun e w' => e = .returned (.agg #[.int .i64 ((I * 2 ^ L : Nat) : Int), .int .i64 (((I + 1) * 2 ^ L : Nat) : Int)]) ∧ Below w.heap.size w w' := by
  obtain ⟨_, _, _, f1, f2, f3⟩ := mul_facts (by omega) h1
  generalize I * 2 ^ L = b at *
  generalize (I + 1) * 2 ^ L = b2 at *
  go_enter Try.func15, Try.ntmps15
  go_wp2_with (first | (refine step_box (cs := c2 (L : Int) (I : Int)) rfl rfl ?_; intro w1 g1 hg1 hle1 hb1; obtain ⟨c0, c1⟩ := hg1.two; have HG1 := hide hg1; clear hg1) | (refine step_alloc zS rfl ?_; intro w2 g2 hg2 hle2 hb2; have d0 := cell_kept c0 hb2; have d1 := cell_kept c1 hb2; have HG2 := hide hg2; clear hg2) | (refine step_storeA wS rfl rfl rfl HG2.out rfl (One.c2 (b : Int) (b2 : Int)) rfl ?_; intro w3 hg3 hbut3))
  refine bodyPost_ret (results_wide rfl wS _ _ rfl hg3 rfl) rfl ⟨rfl, ?_⟩
  exact (hb1.trans (hb2.mono hb1.size)).trans (hbut3.below (Nat.le_trans hb1.size hle2))

end Go.Proofs.Ytlniffmhihhkcaa
