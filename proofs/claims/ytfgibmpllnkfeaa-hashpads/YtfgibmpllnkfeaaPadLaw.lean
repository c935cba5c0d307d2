/-
  The walk of HashPads.
-/
import Derived.Test.YtfgibmpllnkfeaaPd
namespace Go.Proofs.Ytfgibmpllnkfeaa
open Go.RowKit
set_option linter.unusedVariables false

theorem padP_bad (n : Int) (w : World) (e : Int) (he : (n < 0 ∧ e = 2) ∨ (2305843009213693951 < n ∧ e = 3)) :
    Calls Try.prog 4 #[.int .i64 n] w fun r w' => r = .returned (.tuple #[.slice none 0 0, .int .i64 e]) ∧ w = w' := by
  rcases he with ⟨h, rfl⟩ | ⟨h, rfl⟩
  · go_enter Try.func4, Try.ntmps4
    go_wp2
    go_ret2
    exact ⟨rfl, rfl⟩
  · have h0 : ¬ n < 0 := by omega
    go_enter Try.func4, Try.ntmps4
    go_wp2
    go_ret2
    exact ⟨rfl, rfl⟩

theorem padP_any (n : Nat) (w : World) (hn : n ≤ 2305843009213693951) :
    Calls Try.prog 4 #[.int .i64 n] w fun e w' => ∃ g, e = .returned (.tuple #[.slice (some ⟨g, 0, none⟩) (padZ n + 9) (padZ n + 9), .int .i64 0]) ∧ w.heap.size ≤ g ∧ Blk w' g 5 (u8s (pad n)) ∧ Below w.heap.size w w' := by
  have hn1 : ¬ ((n : Int) < 0) := by omega
  have hn2 : ¬ ((2305843009213693951 : Int) < (n : Int)) := by omega
  go_enter Try.func4, Try.ntmps4
  go_wp2_with (go_at_call 8; refine (padding_any n _ hn).mono ?_; rintro e w1 ⟨g, rfl, hle, hg, hb⟩)
  go_ret2
  exact ⟨g, rfl, hle, hg, hb⟩

set_option maxHeartbeats 400000 in
theorem spoil_blk (g n cap : Nat) (t : TypeId) (xs : List Int) (w : World) (hg : Blk w g t (u8s xs)) (hx : xs.length = n) (hn : n ≤ 140737488355328) :
    Calls Try.prog 6 #[.slice (some ⟨g, 0, none⟩) n cap] w fun e w' => e = .returned (.tuple #[]) ∧ But g w w' := by
  go_enter Try.func6, Try.ntmps6
  go_wp2
  go_loopw [2] (fun i wr => ∃ k : Nat, k ≤ n ∧ i = .int .i64 k ∧ (∃ ys, Blk wr g t (u8s ys) ∧ ys.length = n) ∧ But g w wr) (fun i _ => n - (intOf i).toNat)
  case atStart => exact ⟨0, by omega, rfl, ⟨xs, hg, hx⟩, But.refl _ _⟩
  case round =>
    obtain ⟨k, hk, rfl, ⟨ys, hr1, hy⟩, hb1⟩ := hrel
    have HY := hide hy
    have HR := hide hr1
    clear hy hr1 hg hx
    by_cases hlt : k < n
    · have hcell : wr.cell? ⟨g, k, none⟩ = some (.int .u8 (ys.getD k 0)) := by rw [HR.out.cell]; exact u8s_get _ _ (by rw [HY.out]; exact hlt)
      have hfree : wr.frozen? ⟨g, k, none⟩ = false := HR.out.free k
      go_wp2
      go_roundw
      case rel =>
        have h := HR.out.set k (.int .u8 ((ys.getD k 0 + 1) % 256))
        rw [u8s_set] at h
        exact ⟨k + 1, by omega, by go_num, ⟨_, h, by rw [List.length_set]; exact HY.out⟩, hb1.trans (But.setCell _ _ _ _)⟩
      case measure => simp [intOf]; omega
    · go_wp2
      go_end0
      exact ⟨rfl, hb1⟩
theorem spoil_nil (w : World) : Calls Try.prog 6 #[.slice none 0 0] w fun e w' => e = .returned (.tuple #[]) ∧ w = w' := by
  go_enter Try.func6, Try.ntmps6
  go_wp2
  refine wp_loop_rounds 1 ?_
  rw [rounds_succ]
  go_wp2
  go_end0
  exact ⟨rfl, rfl⟩

set_option maxHeartbeats 400000 in
theorem names_any (w : World) : Calls Try.prog 7 #[] w fun e w' => e = .returned (.bool true) ∧ w = w' := by
  go_enter Try.func7, Try.ntmps7
  go_wp2
  go_ret
  exact ⟨rfl, rfl⟩

theorem pads_bad (n : Int) (w : World) (e : Int) (he : (n < 0 ∧ e = 2) ∨ (2305843009213693951 < n ∧ e = 3)) :
    Calls Try.prog 3 #[.int .i64 n] w fun e w' => e = .returned (.bool true) ∧ Below w.heap.size w w' := by
  have hn0 : Sl w none 0 0 [] := ⟨rfl, Nat.le_refl _, by omega, by omega, (fun x hx => by simp at hx), fun _ => ⟨rfl, rfl⟩, fun h => absurd h (by omega)⟩
  go_enter Try.func3, Try.ntmps3
  go_wp2_with (first | (go_at_call 4; refine (padP_bad _ _ e he).mono ?_; rintro r w' ⟨rfl, rfl⟩) | (go_at_call 5; refine (paddingR_bad _ _ e he).mono ?_; rintro r w' ⟨rfl, rfl⟩) | (refine step_toStr rfl rfl hn0 ?_) | (go_at_call 6; refine (spoil_nil _).mono ?_; rintro r w' ⟨rfl, rfl⟩) | (go_at_call 7; refine (names_any _).mono ?_; rintro r w' ⟨rfl, rfl⟩))
  go_ret
  exact ⟨rfl, Below.refl _ _⟩

set_option maxHeartbeats 400000 in
theorem pads_good (n : Nat) (w : World) (hn : n ≤ 2305843009213693951) :
    Calls Try.prog 3 #[.int .i64 n] w fun e w' => e = .returned (.bool true) ∧ Below w.heap.size w w' := by
  have hp := padZ_lt n
  have hpl := pad_length n
  have HPL := hide hpl
  have HPB := hide (pad_isB n)
  clear hpl
  go_enter Try.func3, Try.ntmps3
  go_wp2_with fail
  refine (padP_any n _ hn).mono ?_
  rintro r w1 ⟨g1, rfl, hle1, hg1, hb1⟩
  go_wp2_with fail
  refine (padP_any n _ hn).mono ?_
  rintro r w2 ⟨g2, rfl, hle2, hg2, hb2⟩
  go_wp2_with fail
  refine (paddingR_any n _ hn).mono ?_
  rintro r w3 ⟨v, rfl, ho, hne, hb3⟩
  obtain ⟨g, cap, e, hgB, hsl⟩ := ho.sl HPB.out (by rw [HPL.out]; omega) hne
  subst e
  have hb13 : Below w1.heap.size w1 w3 := hb2.trans (hb3.mono hb2.size)
  have B1 := hide (hg1.below hb13 hg1.lt)
  have B2 := hide (hg2.below hb3 hg2.lt)
  have hw3 : Below w.heap.size w w3 := hb1.trans (hb13.mono hb1.size)
  have S1 := hide (B1.out.sl0 HPB.out (by rw [HPL.out]; omega))
  have S3 := hide hsl
  rw [HPL.out] at S1 S3
  have n1 : g2 ≠ g1 := by have := hg1.lt; omega
  have n3 : g ≠ g1 := by have := hg1.lt; have := hb2.size; omega
  clear hg1 hg2 ho hne hb13 hb1 hb2 hb3 hle2 hgB hsl
  rw [HPL.out]
  go_wp2_with (first | (refine step_toStr rfl rfl S1.out ?_) | (refine step_toStr rfl rfl S3.out ?_) | (go_at_call 6; refine (spoil_blk _ _ _ _ _ _ B1.out HPL.out (by omega)).mono ?_; rintro r w4 ⟨rfl, hbut⟩; have T2 := hide ((B2.out.but hbut n1).sl0 HPB.out (by rw [HPL.out]; omega)); have T3 := hide (S3.out.but hbut (fun _ x hx => by cases hx; exact n3)); rw [HPL.out] at T2) | (refine step_toStr rfl rfl T2.out ?_) | (refine step_toStr rfl rfl T3.out ?_) | (go_at_call 7; refine (names_any _).mono ?_; rintro r w' ⟨rfl, rfl⟩))
  go_ret
  exact ⟨rfl, hw3.trans (hbut.below hle1)⟩

theorem pads_walk (n : Int) (w : World) : Calls Try.prog 3 #[.int .i64 n] w fun e w' => e = .returned (.bool true) ∧ Below w.heap.size w w' := by
  by_cases h0 : n < 0
  · exact pads_bad n w 2 (.inl ⟨h0, rfl⟩)
  by_cases h1 : 2305843009213693951 < n
  · exact pads_bad n w 3 (.inr ⟨h1, rfl⟩)
  obtain ⟨m, rfl⟩ := Int.eq_ofNat_of_zero_le (show 0 ≤ n by omega)
  exact pads_good m w (by omega)

end Go.Proofs.Ytfgibmpllnkfeaa
