/-
  The document's spans of proofs; two slices of spans compared.
-/
import Derived.Test.YtlniffmhihhkcaaSn
namespace Go.Proofs.Ytlniffmhihhkcaa
open Go.RowKit
set_option linter.unusedVariables false

theorem half_any (n : Nat) (w : World) (h2 : 2 ≤ n) (hn : n ≤ 281474976710656) : Calls Try.prog 33 #[.int .i64 (n : Int)] w fun r w' => r = .returned (.int .i64 (hf n : Int)) ∧ w' = w := by
  go_enter Try.func33, Try.ntmps33
  go_wp2_with fail
  go_loopw [3] (fun s wr => ∃ k j : Nat, s = .int .i64 (k : Int) ∧ Hid (k = 2 ^ j) ∧ k < n ∧ wr = w) (fun s _ => n - (intOf s).toNat)
  case atStart => exact ⟨1, 0, rfl, hide rfl, by omega, rfl⟩
  case round =>
    obtain ⟨k, j, rfl, HK, hk, rfl⟩ := hrel
    have hk0 : 0 < k := by rw [HK.out]; exact Nat.two_pow_pos j
    by_cases hc : k < n - k
    · have hc' : (k : Int) < (n : Int) - (k : Int) := by omega
      go_wp2
      go_roundw
      case rel => exact ⟨k * 2, j + 1, by simp, hide (by rw [HK.out, Nat.pow_succ]), by omega, by first | rfl | trivial⟩
      case measure => simp only [intOf]; omega
    · have hc' : ¬ (k : Int) < (n : Int) - (k : Int) := by omega
      have hu := hf_uniq n j h2 (by omega) (by rw [← HK.out]; exact hk) (by rw [← HK.out]; omega)
      rw [← HK.out] at hu
      have HU := hide hu
      clear hu
      go_wp2
      go_ret
      rw [HU.out]
      exact ⟨rfl, rfl⟩

set_option maxRecDepth 100000 in
set_option maxHeartbeats 1000000 in
theorem spansR_any (i : Nat) : ∀ (f b n : Nat) (w : World), n ≤ f → b ≤ i → i < b + n → b + n ≤ 281474976710656 →
    Calls Try.prog 29 #[.int .i64 (i : Int), .int .i64 (b : Int), .int .i64 (n : Int)] w fun r w' => ∃ v, r = .returned v ∧ OwnS w' w.heap.size v (spL i b n) ∧ Below w.heap.size w w'
  | 0, b, n, w, h, _, _, _ => by omega
  | f + 1, b, n, w, h, h1, h2, h3 => by
    have ih := hide (fun b n w => spansR_any i f b n w)
    by_cases hn : n = 1
    · subst hn
      have hs : spL i b 1 = [] := by unfold spL; rw [dw_stop (by simp [stopI]; omega)]; rfl
      go_enter Try.func29, Try.ntmps29
      go_wp2
      go_ret
      rw [hs]
      exact ⟨_, rfl, OwnS.nil _ _, Below.refl _ _⟩
    · have hn2 : 2 ≤ n := by omega
      have hn' : ¬ (n : Int) = 1 := by omega
      have hh := hf_bd n hn2 (by omega)
      have hst : stopI i b n = false := by simp [stopI]; omega
      have HH := hide (fun v => half_any n v hn2 (by omega))
      by_cases hc : i < b + hf n
      · have hL : spL i b n = spL i b (hf n) ++ [(b + hf n, b + n)] := by unfold spL; rw [dw_lo (endsI i) hst hn2 (by omega) h1 rfl hc]; simp
        have hlen : (spL i b (hf n)).length ≤ 1048576 := by unfold spL; rw [List.length_reverse]; exact Nat.le_trans (dw_few (endsI i) h1 hc (by omega)) (by decide)
        have IH := hide (fun v => ih.out b (hf n) v (by omega) h1 hc (by omega))
        have HL := hide hL
        clear hL ih
        generalize hf n = k at *
        have hc' : (i : Int) < (b : Int) + (k : Int) := by omega
        go_enter Try.func29, Try.ntmps29
        go_wp2_with (first | (go_at_call 33; refine (HH.out _).mono ?_; rintro r w' ⟨rfl, rfl⟩))
        refine (IH.out _).mono ?_
        rintro r w3 ⟨v3, rfl, ho3, hb3⟩
        obtain ⟨a3, l3, c3, rfl⟩ := ho3.slice
        have O3 := hide ho3
        have B3 := hide hb3
        clear ho3 hb3
        go_wp2_with (refine steponeS (n := (b + k, b + n)) rfl rfl ?_)
        intro W1 g6 hg6 hle6 hb6
        have O6 := hide (O3.out.below hb6)
        have Y6 := hide hg6
        have B6 := hide (on_below B3.out hb6)
        clear hg6 hb6 O3 B3
        go_wp2_with (refine stepappS (v := .slice a3 l3 c3) rfl rfl rfl O6.out Y6.out hlen B6.out.size ?_)
        intro v7 W7 ho7 hgr7 hat7
        have O7 := hide ho7
        have B7 := hide (B6.out.trans ((Below.refl _ _).grown hgr7 B6.out.size (fun k hk => (O6.out.lt k hk).1)))
        obtain ⟨a7, l7, c7, rfl⟩ := ho7.slice
        clear ho7 hgr7 hat7 O6 B6 Y6
        go_wp2
        go_ret
        exact ⟨_, rfl, by rw [HL.out]; exact O7.out, B7.out⟩
      · have hL : spL i b n = spL i (b + hf n) (n - hf n) ++ [(b, b + hf n)] := by unfold spL; rw [dw_hi (endsI i) hst hn2 (by omega) h2 rfl hc]; simp
        have hlen : (spL i (b + hf n) (n - hf n)).length ≤ 1048576 := by unfold spL; rw [List.length_reverse]; exact Nat.le_trans (dw_few (endsI i) (by omega) (by omega) (by omega)) (by decide)
        have IH := hide (fun v => ih.out (b + hf n) (n - hf n) v (by omega) (by omega) (by omega) (by omega))
        have HL := hide hL
        clear hL ih
        generalize hf n = k at *
        have hc' : ¬ (i : Int) < (b : Int) + (k : Int) := by omega
        have e2 : ((n - k : Nat) : Int) = (n : Int) - (k : Int) := by omega
        rw [Int.natCast_add, e2] at IH
        go_enter Try.func29, Try.ntmps29
        go_wp2_with (first | (go_at_call 33; refine (HH.out _).mono ?_; rintro r w' ⟨rfl, rfl⟩))
        refine (IH.out _).mono ?_
        rintro r w3 ⟨v3, rfl, ho3, hb3⟩
        obtain ⟨a3, l3, c3, rfl⟩ := ho3.slice
        have O3 := hide ho3
        have B3 := hide hb3
        clear ho3 hb3
        go_wp2_with (refine steponeS (n := (b, b + k)) rfl rfl ?_)
        intro W1 g6 hg6 hle6 hb6
        have O6 := hide (O3.out.below hb6)
        have Y6 := hide hg6
        have B6 := hide (on_below B3.out hb6)
        clear hg6 hb6 O3 B3
        go_wp2_with (refine stepappS (v := .slice a3 l3 c3) rfl rfl rfl O6.out Y6.out hlen B6.out.size ?_)
        intro v7 W7 ho7 hgr7 hat7
        have O7 := hide ho7
        have B7 := hide (B6.out.trans ((Below.refl _ _).grown hgr7 B6.out.size (fun k hk => (O6.out.lt k hk).1)))
        obtain ⟨a7, l7, c7, rfl⟩ := ho7.slice
        clear ho7 hgr7 hat7 O6 B6 Y6
        go_wp2
        go_ret
        exact ⟨_, rfl, by rw [HL.out]; exact O7.out, B7.out⟩

theorem spansR_bad (i n : Int) (w : World) (h : i < 0 ∨ n ≤ i ∨ 281474976710656 < n) : Calls Try.prog 18 #[.int .i64 i, .int .i64 n] w fun r w' => r = .returned (.tuple #[.slice none 0 0, .int .i64 40]) ∧ Below w.heap.size w w' := by
  by_cases h1 : i < 0
  · skip
    go_enter Try.func18, Try.ntmps18
    go_wp2
    go_ret2
    exact ⟨rfl, Below.refl _ _⟩
  · by_cases h2 : i ≥ n
    · skip
      go_enter Try.func18, Try.ntmps18
      go_wp2
      go_ret2
      exact ⟨rfl, Below.refl _ _⟩
    · have h3 : n > 281474976710656 := by omega
      go_enter Try.func18, Try.ntmps18
      go_wp2
      go_ret2
      exact ⟨rfl, Below.refl _ _⟩
theorem stepsR_bad (m n : Int) (w : World) (h : m < 1 ∨ n < m ∨ 281474976710656 < n) : Calls Try.prog 19 #[.int .i64 m, .int .i64 n] w fun r w' => r = .returned (.tuple #[.slice none 0 0, .int .i64 40]) ∧ Below w.heap.size w w' := by
  by_cases h1 : m < 1
  · skip
    go_enter Try.func19, Try.ntmps19
    go_wp2
    go_ret2
    exact ⟨rfl, Below.refl _ _⟩
  · by_cases h2 : m > n
    · skip
      go_enter Try.func19, Try.ntmps19
      go_wp2
      go_ret2
      exact ⟨rfl, Below.refl _ _⟩
    · have h3 : n > 281474976710656 := by omega
      go_enter Try.func19, Try.ntmps19
      go_wp2
      go_ret2
      exact ⟨rfl, Below.refl _ _⟩
theorem spansR_ok (i n : Nat) (w : World) (h1 : i < n) (h2 : n ≤ 281474976710656) : Calls Try.prog 18 #[.int .i64 (i : Int), .int .i64 (n : Int)] w fun r w' => ∃ v, r = .returned (.tuple #[v, .int .i64 0]) ∧ OwnS w' w.heap.size v (spL i 0 n) ∧ Below w.heap.size w w' := by
  have k0 : ¬ (i : Int) < 0 := by omega
  have k1 : ¬ (i : Int) ≥ (n : Int) := by omega
  have k2 : ¬ (n : Int) > 281474976710656 := by omega
  have H : Hid (∀ v : World, Calls Try.prog 29 #[.int .i64 (i : Int), .int .i64 0, .int .i64 (n : Int)] v fun r w' => ∃ u, r = .returned u ∧ OwnS w' v.heap.size u (spL i 0 n) ∧ Below v.heap.size v w') := hide fun v => spansR_any i n 0 n v (Nat.le_refl _) (Nat.zero_le _) (by omega) (by omega)
  go_enter Try.func18, Try.ntmps18
  go_wp2_with fail
  refine (H.out _).mono ?_
  rintro r w3 ⟨v3, rfl, ho3, hb3⟩
  obtain ⟨a3, l3, c3, rfl⟩ := ho3.slice
  go_wp2
  go_ret2
  exact ⟨_, rfl, ho3, hb3⟩

set_option maxRecDepth 100000 in
set_option maxHeartbeats 1000000 in
theorem stepsR_any (m : Nat) (hm : 1 ≤ m) : ∀ (f b n : Nat) (W : Bool) (w : World), n ≤ f → b < m → m ≤ b + n → b + n ≤ 281474976710656 → W = decide (b = 0) →
    Calls Try.prog 30 #[.int .i64 ((m : Int) - (b : Int)), .int .i64 (b : Int), .int .i64 (n : Int), .bool W] w fun r w' => ∃ v, r = .returned v ∧ OwnS w' w.heap.size v (stL m b n) ∧ Below w.heap.size w w'
  | 0, b, n, W, w, h, _, _, _, _ => by omega
  | f + 1, b, n, W, w, h, h1, h2, h3, hW => by
    have ih := hide (fun b n W w => stepsR_any m hm f b n W w)
    by_cases hn : b + n = m
    · have hs : stL m b n = tlast (b, b + n) := by unfold stL; rw [dw_stop (by simp [stopM]; omega)]; unfold tlast; split <;> rfl
      have hn' : (m : Int) - (b : Int) = (n : Int) := by omega
      rw [hn', hs]
      by_cases hb : b = 0
      · subst hb
        obtain rfl : W = true := by rw [hW]; rfl
        clear hn' hW hs ih hn h1 h2 h3
        go_enter Try.func30, Try.ntmps30
        go_wp2
        go_ret
        exact ⟨_, rfl, OwnS.nil _ _, Below.refl _ _⟩
      · obtain rfl : W = false := by rw [hW]; simp [hb]
        have ht : tlast (b, b + n) = [(b, b + n)] := by unfold tlast; rw [if_neg hb]
        rw [ht]
        clear hn' hW hs ht ih
        go_enter Try.func30, Try.ntmps30
        go_wp2_with (refine steponeS (n := (b, b + n)) rfl rfl ?_; intro W1 g6 hg6 hle6 hb6)
        go_ret
        refine ⟨_, rfl, ?_, hb6⟩
        exact OwnS.mk (ns := [(b, b + n)]) hle6 hg6 (Nat.le_refl _) (by decide) rfl rfl
    · have hst : stopM m b n = false := by simp [stopM]; omega
      have hn2 : 2 ≤ n := by omega
      have hn' : ¬ ((m : Int) - (b : Int) = (n : Int)) := by omega
      have hh := hf_bd n hn2 (by omega)
      have HH := hide (fun v => half_any n v hn2 (by omega))
      by_cases hc : m - 1 < b + hf n
      · have hL : stL m b n = stL m b (hf n) ++ [(b + hf n, b + n)] := by unfold stL; rw [dw_lo (endsM m hm) hst hn2 (by omega) (by omega) rfl hc]; simp
        have hlen : (stL m b (hf n)).length ≤ 1048576 := by
          unfold stL
          rw [List.length_reverse, List.length_append]
          have h5 := dw_few (stop := stopM m) (endsM m hm) (show b ≤ m - 1 by omega) hc (by omega)
          have h6 : (tlast (dw (stopM m) (m - 1) b (hf n)).2).length ≤ 1 := by unfold tlast; split <;> simp
          omega
        have IH := hide (fun v => ih.out b (hf n) W v (by omega) h1 (by omega) (by omega) hW)
        have HL := hide hL
        clear hL ih hW
        generalize hf n = k at *
        have hc' : (m : Int) - (b : Int) ≤ (k : Int) := by omega
        go_enter Try.func30, Try.ntmps30
        go_wp2_with (first | (go_at_call 33; refine (HH.out _).mono ?_; rintro r w' ⟨rfl, rfl⟩))
        refine (IH.out _).mono ?_
        rintro r w3 ⟨v3, rfl, ho3, hb3⟩
        obtain ⟨a3, l3, c3, rfl⟩ := ho3.slice
        have O3 := hide ho3
        have B3 := hide hb3
        clear ho3 hb3
        go_wp2_with (refine steponeS (n := (b + k, b + n)) rfl rfl ?_)
        intro W1 g6 hg6 hle6 hb6
        have O6 := hide (O3.out.below hb6)
        have Y6 := hide hg6
        have B6 := hide (on_below B3.out hb6)
        clear hg6 hb6 O3 B3
        go_wp2_with (refine stepappS (v := .slice a3 l3 c3) rfl rfl rfl O6.out Y6.out hlen B6.out.size ?_)
        intro v7 W7 ho7 hgr7 hat7
        have O7 := hide ho7
        have B7 := hide (B6.out.trans ((Below.refl _ _).grown hgr7 B6.out.size (fun k hk => (O6.out.lt k hk).1)))
        obtain ⟨a7, l7, c7, rfl⟩ := ho7.slice
        clear ho7 hgr7 hat7 O6 B6 Y6
        go_wp2
        go_ret
        exact ⟨_, rfl, by rw [HL.out]; exact O7.out, B7.out⟩
      · have hL : stL m b n = stL m (b + hf n) (n - hf n) ++ [(b, b + hf n)] := by unfold stL; rw [dw_hi (endsM m hm) hst hn2 (by omega) (by omega) rfl hc]; simp
        have hlen : (stL m (b + hf n) (n - hf n)).length ≤ 1048576 := by
          unfold stL
          rw [List.length_reverse, List.length_append]
          have h5 := dw_few (stop := stopM m) (b := b + hf n) (n := n - hf n) (endsM m hm) (by omega) (by omega) (by omega)
          have h6 : (tlast (dw (stopM m) (m - 1) (b + hf n) (n - hf n)).2).length ≤ 1 := by unfold tlast; split <;> simp
          omega
        have IH := hide (fun v => ih.out (b + hf n) (n - hf n) false v (by omega) (by omega) (by omega) (by omega) (by simp; omega))
        have HL := hide hL
        clear hL ih hW
        generalize hf n = k at *
        have hc' : ¬ (m : Int) - (b : Int) ≤ (k : Int) := by omega
        have e2 : ((n - k : Nat) : Int) = (n : Int) - (k : Int) := by omega
        have e3 : (m : Int) - ((b + k : Nat) : Int) = (m : Int) - (b : Int) - (k : Int) := by omega
        rw [e3, Int.natCast_add, e2] at IH
        go_enter Try.func30, Try.ntmps30
        go_wp2_with (first | (go_at_call 33; refine (HH.out _).mono ?_; rintro r w' ⟨rfl, rfl⟩))
        refine (IH.out _).mono ?_
        rintro r w3 ⟨v3, rfl, ho3, hb3⟩
        obtain ⟨a3, l3, c3, rfl⟩ := ho3.slice
        have O3 := hide ho3
        have B3 := hide hb3
        clear ho3 hb3
        go_wp2_with (refine steponeS (n := (b, b + k)) rfl rfl ?_)
        intro W1 g6 hg6 hle6 hb6
        have O6 := hide (O3.out.below hb6)
        have Y6 := hide hg6
        have B6 := hide (on_below B3.out hb6)
        clear hg6 hb6 O3 B3
        go_wp2_with (refine stepappS (v := .slice a3 l3 c3) rfl rfl rfl O6.out Y6.out hlen B6.out.size ?_)
        intro v7 W7 ho7 hgr7 hat7
        have O7 := hide ho7
        have B7 := hide (B6.out.trans ((Below.refl _ _).grown hgr7 B6.out.size (fun k hk => (O6.out.lt k hk).1)))
        obtain ⟨a7, l7, c7, rfl⟩ := ho7.slice
        clear ho7 hgr7 hat7 O6 B6 Y6
        go_wp2
        go_ret
        exact ⟨_, rfl, by rw [HL.out]; exact O7.out, B7.out⟩
theorem stepsR_ok (m n : Nat) (w : World) (h0 : 1 ≤ m) (h1 : m ≤ n) (h2 : n ≤ 281474976710656) : Calls Try.prog 19 #[.int .i64 (m : Int), .int .i64 (n : Int)] w fun r w' => ∃ v, r = .returned (.tuple #[v, .int .i64 0]) ∧ OwnS w' w.heap.size v (stL m 0 n) ∧ Below w.heap.size w w' := by
  have k0 : ¬ (m : Int) < 1 := by omega
  have k1 : ¬ (m : Int) > (n : Int) := by omega
  have k2 : ¬ (n : Int) > 281474976710656 := by omega
  have H : Hid (∀ v : World, Calls Try.prog 30 #[.int .i64 (m : Int), .int .i64 0, .int .i64 (n : Int), .bool true] v fun r w' => ∃ u, r = .returned u ∧ OwnS w' v.heap.size u (stL m 0 n) ∧ Below v.heap.size v w') := hide fun v => by
    have := stepsR_any m h0 n 0 n true v (Nat.le_refl _) (by omega) (by omega) (by omega) (by decide)
    rwa [show (m : Int) - ((0 : Nat) : Int) = (m : Int) by omega] at this
  go_enter Try.func19, Try.ntmps19
  go_wp2_with fail
  refine (H.out _).mono ?_
  rintro r w3 ⟨v3, rfl, ho3, hb3⟩
  obtain ⟨a3, l3, c3, rfl⟩ := ho3.slice
  go_wp2
  go_ret2
  exact ⟨_, rfl, ho3, hb3⟩

end Go.Proofs.Ytlniffmhihhkcaa
