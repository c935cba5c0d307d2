/-
  The document's lengths of proofs.
-/
import Derived.Test.YtconeobaohmbnaaDoorVt
namespace Go.Proofs.YtconeobaohmbnaaDoor
open Go.RowKit
set_option linter.unusedVariables false

theorem half7_any (n : Nat) (w : World) (h2 : 2 ≤ n) (hn : n ≤ 281474976710656) : Calls Tryd.prog 98 #[.int .i64 (n : Int)] w fun r w' => r = .returned (.int .i64 (hf n : Int)) ∧ w' = w := by
  go_enter Tryd.func98, Tryd.ntmps98
  go_wp2_with fail
  go_loopw [3] (fun s wr => ∃ k j : Nat, s = .int .i64 (k : Int) ∧ Hid (k = 2 ^ j) ∧ k < n ∧ wr = w) (fun s _ => n - (intOf s).toNat)
  case atStart => exact ⟨1, 0, rfl, hide rfl, by omega, rfl⟩
  case round =>
    obtain ⟨k, j, rfl, HK, hk, rfl⟩ := hrel
    have hk0 : 0 < k := by rw [HK.out]; exact Nat.two_pow_pos j
    by_cases hc : k * 2 < n
    · have hc' : (k : Int) * 2 < (n : Int) := by omega
      go_wp2
      go_roundw
      case rel => exact ⟨k * 2, j + 1, by simp, hide (by rw [HK.out, Nat.pow_succ]), by omega, by first | rfl | trivial⟩
      case measure => simp only [intOf]; omega
    · have hc' : ¬ (k : Int) * 2 < (n : Int) := by omega
      have hu := hf_uniq n j h2 (by omega) (by rw [← HK.out]; exact hk) (by rw [← HK.out]; omega)
      rw [← HK.out] at hu
      have HU := hide hu
      clear hu
      go_wp2
      go_ret
      rw [HU.out]
      exact ⟨rfl, rfl⟩
theorem len_one (l : Nat) (h : l ≤ 100) : wrap64 (1 + (l : Int)) = ((l + 1 : Nat) : Int) := by unfold wrap64; omega
set_option maxRecDepth 100000 in
set_option maxHeartbeats 1000000 in
theorem deepR_any (i : Nat) : ∀ (f b n : Nat) (w : World), n ≤ f → b ≤ i → i < b + n → b + n ≤ 281474976710656 →
    Calls Tryd.prog 100 #[.int .i64 ((i : Int) - (b : Int)), .int .i64 (n : Int)] w fun r w' => r = .returned (.int .i64 ((hvL i b n).length : Int)) ∧ w' = w
  | 0, b, n, w, h, _, _, _ => by omega
  | f + 1, b, n, w, h, h1, h2, h3 => by
    have ih := hide (fun b n w => deepR_any i f b n w)
    by_cases hn : n = 1
    · subst hn
      rw [hvL_one]
      clear ih
      go_enter Tryd.func100, Tryd.ntmps100
      go_wp2
      go_ret
      exact ⟨rfl, rfl⟩
    · have hn2 : 2 ≤ n := by omega
      have hn' : ¬ ((n : Int) = 1) := by omega
      have hh := hf_bd n hn2 (by omega)
      have HH := hide (fun v => half7_any n v hn2 (by omega))
      by_cases hc : i < b + hf n
      · have IH := hide (fun v => ih.out b (hf n) v (by omega) h1 hc (by omega))
        have hlen := hvL_few h1 hc (by omega)
        rw [hvL_lo hn2 (by omega) h1 hc]
        generalize hvL i b (hf n) = L at *
        clear ih
        generalize hf n = k at *
        have hc' : (i : Int) - (b : Int) < (k : Int) := by omega
        rw [List.length_append, List.length_singleton]
        go_enter Tryd.func100, Tryd.ntmps100
        go_wp2_with fail
        refine (HH.out _).mono ?_
        rintro r w' ⟨rfl, rfl⟩
        go_wp2_with fail
        refine (IH.out _).mono ?_
        rintro r w' ⟨rfl, rfl⟩
        go_wp2
        go_ret
        exact ⟨congrArg (fun x : Int => Ending.returned (Value.int .i64 x)) (by omega), rfl⟩
      · have IH := hide (fun v => ih.out (b + hf n) (n - hf n) v (by omega) (by omega) (by omega) (by omega))
        have hlen := hvL_few (show b + hf n ≤ i by omega) (show i < b + hf n + (n - hf n) by omega) (by omega)
        rw [hvL_hi hn2 (by omega) h2 hc]
        generalize hvL i (b + hf n) (n - hf n) = L at *
        clear ih
        generalize hf n = k at *
        have hc' : ¬ (i : Int) - (b : Int) < (k : Int) := by omega
        have e2 : ((n - k : Nat) : Int) = (n : Int) - (k : Int) := by omega
        have e3 : (i : Int) - ((b + k : Nat) : Int) = (i : Int) - (b : Int) - (k : Int) := by omega
        rw [e3, e2] at IH
        clear e2 e3
        rw [List.length_append, List.length_singleton]
        go_enter Tryd.func100, Tryd.ntmps100
        go_wp2_with fail
        refine (HH.out _).mono ?_
        rintro r w' ⟨rfl, rfl⟩
        go_wp2_with fail
        refine (IH.out _).mono ?_
        rintro r w' ⟨rfl, rfl⟩
        go_wp2
        go_ret
        exact ⟨congrArg (fun x : Int => Ending.returned (Value.int .i64 x)) (by omega), rfl⟩
set_option maxRecDepth 100000 in
set_option maxHeartbeats 1000000 in
theorem belowR_any (m : Nat) (hm : 1 ≤ m) : ∀ (f b n : Nat) (W : Bool) (w : World), n ≤ f → b < m → m ≤ b + n → b + n ≤ 281474976710656 → W = decide (b = 0) →
    Calls Tryd.prog 97 #[.int .i64 ((m : Int) - (b : Int)), .int .i64 (n : Int), .bool W] w fun r w' => r = .returned (.int .i64 (((hvM m b n).length + ptM m b n : Nat) : Int)) ∧ w' = w
  | 0, b, n, W, w, h, _, _, _, _ => by omega
  | f + 1, b, n, W, w, h, h1, h2, h3, hW => by
    have ih := hide (fun b n W w => belowR_any m hm f b n W w)
    by_cases hn : b + n = m
    · obtain ⟨e1, e2⟩ := hvM_end hn
      have hn' : (m : Int) - (b : Int) = (n : Int) := by omega
      rw [hn', e1, e2]
      by_cases hb : b = 0
      · subst hb
        obtain rfl : W = true := by rw [hW]; rfl
        clear hn' hW ih hn h1 h2 h3 e1 e2
        go_enter Tryd.func97, Tryd.ntmps97
        go_wp2
        go_ret
        exact ⟨rfl, rfl⟩
      · obtain rfl : W = false := by rw [hW]; simp [hb]
        rw [if_neg hb]
        clear hn' hW ih hn h1 h2 h3 e1 e2
        go_enter Tryd.func97, Tryd.ntmps97
        go_wp2
        go_ret
        exact ⟨rfl, rfl⟩
    · have hn2 : 2 ≤ n := by omega
      have hn' : ¬ ((m : Int) - (b : Int) = (n : Int)) := by omega
      have hh := hf_bd n hn2 (by omega)
      have HH := hide (fun v => half7_any n v hn2 (by omega))
      by_cases hc : m - 1 < b + hf n
      · have IH := hide (fun v => ih.out b (hf n) W v (by omega) h1 (by omega) (by omega) hW)
        have hlen := hvM_few hm h1 (show m ≤ b + hf n by omega) (by omega)
        obtain ⟨e1, e2⟩ := hvM_lo hm hn hn2 (by omega) h1 hc
        rw [e1, e2]
        have hpt := ptM_le m b (hf n)
        generalize hvM m b (hf n) = L at *
        generalize ptM m b (hf n) = T at *
        clear ih e1 e2 hW
        generalize hf n = k at *
        have hc' : (m : Int) - (b : Int) ≤ (k : Int) := by omega
        rw [List.length_append, List.length_singleton]
        generalize hl : L.length = l at *
        clear hl
        go_enter Tryd.func97, Tryd.ntmps97
        go_wp2_with fail
        refine (HH.out _).mono ?_
        rintro r w' ⟨rfl, rfl⟩
        go_wp2_with fail
        refine (IH.out _).mono ?_
        rintro r w' ⟨rfl, rfl⟩
        go_wp2
        go_ret
        exact ⟨congrArg (fun x : Int => Ending.returned (Value.int .i64 x)) (by omega), rfl⟩
      · have IH := hide (fun v => ih.out (b + hf n) (n - hf n) false v (by omega) (by omega) (by omega) (by omega) (by simp; omega))
        have hlen := hvM_few hm (show b + hf n < m by omega) (show m ≤ b + hf n + (n - hf n) by omega) (by omega)
        obtain ⟨e1, e2⟩ := hvM_hi hm hn hn2 (by omega) h2 h1 hc
        rw [e1, e2]
        have hpt := ptM_le m (b + hf n) (n - hf n)
        generalize hvM m (b + hf n) (n - hf n) = L at *
        generalize ptM m (b + hf n) (n - hf n) = T at *
        clear ih e1 e2 hW
        generalize hf n = k at *
        have hc' : ¬ (m : Int) - (b : Int) ≤ (k : Int) := by omega
        have e2 : ((n - k : Nat) : Int) = (n : Int) - (k : Int) := by omega
        have e3 : (m : Int) - ((b + k : Nat) : Int) = (m : Int) - (b : Int) - (k : Int) := by omega
        rw [e3, e2] at IH
        clear e2 e3
        rw [List.length_append, List.length_singleton]
        generalize hl : L.length = l at *
        clear hl
        go_enter Tryd.func97, Tryd.ntmps97
        go_wp2_with fail
        refine (HH.out _).mono ?_
        rintro r w' ⟨rfl, rfl⟩
        go_wp2_with fail
        refine (IH.out _).mono ?_
        rintro r w' ⟨rfl, rfl⟩
        go_wp2
        go_ret
        exact ⟨congrArg (fun x : Int => Ending.returned (Value.int .i64 x)) (by omega), rfl⟩
theorem lengthR_bad (i n : Int) (w : World) (h : i < 0 ∨ n ≤ i ∨ 281474976710656 < n) : Calls Tryd.prog 77 #[.int .i64 i, .int .i64 n] w fun r w' => r = .returned (.tuple #[.int .i64 0, .int .i64 40]) ∧ w' = w := by
  by_cases h0 : n < 1
  · skip
    go_enter Tryd.func77, Tryd.ntmps77
    go_wp2
    go_ret2
    exact ⟨rfl, rfl⟩
  · by_cases h1 : n > 281474976710656
    · skip
      go_enter Tryd.func77, Tryd.ntmps77
      go_wp2
      go_ret2
      exact ⟨rfl, rfl⟩
    · by_cases h2 : i < 0
      · skip
        go_enter Tryd.func77, Tryd.ntmps77
        go_wp2
        go_ret2
        exact ⟨rfl, rfl⟩
      · have h3 : i ≥ n := by omega
        go_enter Tryd.func77, Tryd.ntmps77
        go_wp2
        go_ret2
        exact ⟨rfl, rfl⟩
theorem lengthR_ok (i n : Nat) (w : World) (h1 : i < n) (h2 : n ≤ 281474976710656) : Calls Tryd.prog 77 #[.int .i64 (i : Int), .int .i64 (n : Int)] w fun r w' => r = .returned (.tuple #[.int .i64 ((hvL i 0 n).length : Int), .int .i64 0]) ∧ w' = w := by
  have k0 : ¬ (n : Int) < 1 := by omega
  have k1 : ¬ (i : Int) ≥ (n : Int) := by omega
  have k2 : ¬ (n : Int) > 281474976710656 := by omega
  have k3 : ¬ (i : Int) < 0 := by omega
  have H : Hid (∀ v : World, Calls Tryd.prog 100 #[.int .i64 (i : Int), .int .i64 (n : Int)] v fun r w' => r = .returned (.int .i64 ((hvL i 0 n).length : Int)) ∧ w' = v) := hide fun v => by
    have := deepR_any i n 0 n v (Nat.le_refl _) (Nat.zero_le _) (by omega) (by omega)
    rwa [show (i : Int) - ((0 : Nat) : Int) = (i : Int) by omega] at this
  generalize hvL i 0 n = L at *
  go_enter Tryd.func77, Tryd.ntmps77
  go_wp2_with fail
  refine (H.out _).mono ?_
  rintro r w3 ⟨rfl, rfl⟩
  go_wp2
  go_ret2
  exact ⟨rfl, rfl⟩
theorem stepsR_bad (m n : Int) (w : World) (h : m < 1 ∨ n < m ∨ 281474976710656 < n) : Calls Tryd.prog 75 #[.int .i64 m, .int .i64 n] w fun r w' => r = .returned (.tuple #[.int .i64 0, .int .i64 40]) ∧ w' = w := by
  by_cases h1 : n > 281474976710656
  · skip
    go_enter Tryd.func75, Tryd.ntmps75
    go_wp2
    go_ret2
    exact ⟨rfl, rfl⟩
  · by_cases h2 : m < 1
    · skip
      go_enter Tryd.func75, Tryd.ntmps75
      go_wp2
      go_ret2
      exact ⟨rfl, rfl⟩
    · have h3 : m > n := by omega
      go_enter Tryd.func75, Tryd.ntmps75
      go_wp2
      go_ret2
      exact ⟨rfl, rfl⟩
theorem stepsR_ok (m n : Nat) (w : World) (h0 : 1 ≤ m) (h1 : m ≤ n) (h2 : n ≤ 281474976710656) : Calls Tryd.prog 75 #[.int .i64 (m : Int), .int .i64 (n : Int)] w fun r w' => r = .returned (.tuple #[.int .i64 (((hvM m 0 n).length + ptM m 0 n : Nat) : Int), .int .i64 0]) ∧ w' = w := by
  have k0 : ¬ (m : Int) < 1 := by omega
  have k1 : ¬ (m : Int) > (n : Int) := by omega
  have k2 : ¬ (n : Int) > 281474976710656 := by omega
  have H : Hid (∀ v : World, Calls Tryd.prog 97 #[.int .i64 (m : Int), .int .i64 (n : Int), .bool true] v fun r w' => r = .returned (.int .i64 (((hvM m 0 n).length + ptM m 0 n : Nat) : Int)) ∧ w' = v) := hide fun v => by
    have := belowR_any m h0 n 0 n true v (Nat.le_refl _) (by omega) (by omega) (by omega) (by decide)
    rwa [show (m : Int) - ((0 : Nat) : Int) = (m : Int) by omega] at this
  generalize (hvM m 0 n).length + ptM m 0 n = L at *
  go_enter Tryd.func75, Tryd.ntmps75
  go_wp2_with fail
  refine (H.out _).mono ?_
  rintro r w3 ⟨rfl, rfl⟩
  go_wp2
  go_ret2
  exact ⟨rfl, rfl⟩

end Go.Proofs.YtconeobaohmbnaaDoor
