/-
  The program's ways to a leaf and to a part, and the lengths of proofs.
-/
import Derived.Test.YtconeobaohmbnaaDoorVw
namespace Go.Proofs.YtconeobaohmbnaaDoor
open Go.RowKit
set_option linter.unusedVariables false

theorem metL_any (b n : Nat) (v : World) (hn : b + n ≤ 281474976710656) :
    Calls Tryd.prog 108 #[.agg #[.int .i64 (b : Int), .int .i64 ((b + n : Nat) : Int)]] v fun r v' => r = .returned (.bool (stopL b n)) ∧ Below v.heap.size v v' := by
  have e1 : IntKind.i64.wrap (((b + n : Nat) : Int) - (b : Int)) = (n : Int) := by rw [IntKind.wrap_i64]; omega
  obtain ⟨e, he⟩ : ∃ e, b + n = e := ⟨_, rfl⟩
  rw [he] at e1 ⊢
  have e2 : (e : Int) - (b : Int) = (n : Int) := by omega
  by_cases h1 : n = 1
  · subst h1
    have hq : stopL b 1 = true := by simp [stopL]
    rw [hq]
    have e3 : (e : Int) - (b : Int) = 1 := by omega
    clear hq he e2
    go_enter Tryd.func108, Tryd.ntmps108
    go_wp2_with (refine step_box (cs := c2 (b : Int) (e : Int)) rfl rfl ?_; intro w1 g1 hg1 hle1 hb1; obtain ⟨c0, c1⟩ := hg1.two; clear hg1)
    go_ret
    exact ⟨rfl, hb1⟩
  · have hq : stopL b n = false := by simp [stopL, h1]
    rw [hq]
    have h1' : ((n : Int) == 1) = false := by simp; omega
    have h2' : ((e : Int) - (b : Int) == 1) = false := by simp; omega
    clear hq he e2
    go_enter Tryd.func108, Tryd.ntmps108
    go_wp2_with (refine step_box (cs := c2 (b : Int) (e : Int)) rfl rfl ?_; intro w1 g1 hg1 hle1 hb1; obtain ⟨c0, c1⟩ := hg1.two; clear hg1)
    go_ret
    exact ⟨rfl, hb1⟩
theorem metM_any (c m b e : Nat) (q : Bool) (v : World) (hq : q = decide (e = m)) (hc : v.cell? ⟨c, 0, none⟩ = some (.int .i64 (m : Int))) :
    Calls Tryd.prog 96 #[.agg #[.int .i64 (b : Int), .int .i64 (e : Int)], .pointer (some ⟨c, 0, none⟩)] v fun r v' => r = .returned (.bool q) ∧ Below v.heap.size v v' := by
  have HC := hide hc
  clear hc
  by_cases h1 : e = m
  · subst h1
    obtain rfl : q = true := by rw [hq]; simp
    clear hq
    go_enter Tryd.func96, Tryd.ntmps96
    go_wp2_with (refine step_box (cs := c2 (b : Int) (e : Int)) rfl rfl ?_; intro w1 g1 hg1 hle1 hb1; obtain ⟨c0, c1⟩ := hg1.two; have d0 := cell_kept HC.out hb1; clear hg1)
    go_ret
    exact ⟨rfl, hb1⟩
  · obtain rfl : q = false := by rw [hq]; simp [h1]
    have h1' : ((e : Int) == (m : Int)) = false := by simp; omega
    clear hq
    go_enter Tryd.func96, Tryd.ntmps96
    go_wp2_with (refine step_box (cs := c2 (b : Int) (e : Int)) rfl rfl ?_; intro w1 g1 hg1 hle1 hb1; obtain ⟨c0, c1⟩ := hg1.two; have d0 := cell_kept HC.out hb1; clear hg1)
    go_ret
    exact ⟨rfl, hb1⟩
theorem toLeaf_bad (i n : Int) (w : World) (h : i < 0 ∨ n ≤ i ∨ 281474976710656 < n) : Calls Tryd.prog 91 #[.int .i64 i, .int .i64 n] w fun r w' => r = .returned (.tuple #[.slice none 0 0, .int .i64 40]) ∧ Below w.heap.size w w' := by
  by_cases h1 : i < 0
  · skip
    go_enter Tryd.func91, Tryd.ntmps91
    go_wp2
    go_ret2
    exact ⟨rfl, Below.refl _ _⟩
  · by_cases h2 : i ≥ n
    · skip
      go_enter Tryd.func91, Tryd.ntmps91
      go_wp2
      go_ret2
      exact ⟨rfl, Below.refl _ _⟩
    · have h3 : n > 281474976710656 := by omega
      go_enter Tryd.func91, Tryd.ntmps91
      go_wp2
      go_ret2
      exact ⟨rfl, Below.refl _ _⟩
theorem results_3 {fn : Func} {p q u : Tmp} (h : fn.results = #[.tmp p, .tmp q, .tmp u]) (tmps : Array Value) (w : World) : (results fn tmps).run Tryd.prog w = .ok (.tuple #[tmps.getD p undef, tmps.getD q undef, tmps.getD u undef]) w := by
  simp [results, h]
theorem toPart_bad (m n : Int) (w : World) (h : m < 1 ∨ n < m ∨ 281474976710656 < n) : Calls Tryd.prog 73 #[.int .i64 m, .int .i64 n] w fun r w' => r = .returned (.tuple #[.slice none 0 0, .int .i64 0, .int .i64 40]) ∧ Below w.heap.size w w' := by
  by_cases h1 : m < 1
  · skip
    go_enter Tryd.func73, Tryd.ntmps73
    go_wp2
    exact bodyPost_ret (results_3 rfl _ _) rfl ⟨rfl, (Below.refl _ _).alloc (Nat.le_refl _) _⟩
  · by_cases h2 : m > n
    · skip
      go_enter Tryd.func73, Tryd.ntmps73
      go_wp2
      exact bodyPost_ret (results_3 rfl _ _) rfl ⟨rfl, (Below.refl _ _).alloc (Nat.le_refl _) _⟩
    · have h3 : n > 281474976710656 := by omega
      go_enter Tryd.func73, Tryd.ntmps73
      go_wp2
      exact bodyPost_ret (results_3 rfl _ _) rfl ⟨rfl, (Below.refl _ _).alloc (Nat.le_refl _) _⟩
theorem callL (x : Value) (v : World) : (callFunc 108 #[x]).run Tryd.prog v = .ok (.enter 108 #[x]) v := by
  go_simp
theorem callM (c : Value) (x : Value) (v : World) : (callFunc 96 #[x, c]).run Tryd.prog v = .ok (.enter 96 #[x, c]) v := by
  go_simp
set_option maxRecDepth 100000 in
set_option maxHeartbeats 1000000 in
theorem toLeaf_ok (i n : Nat) (w : World) (h1 : i < n) (h2 : n ≤ 281474976710656) : Calls Tryd.prog 91 #[.int .i64 (i : Int), .int .i64 (n : Int)] w fun r w' => ∃ v, r = .returned (.tuple #[v, .int .i64 0]) ∧ OwnH w' w.heap.size v (hvL i 0 n) ∧ Below w.heap.size w w' := by
  have k0 : ¬ (i : Int) < 0 := by omega
  have k1 : ¬ (i : Int) ≥ (n : Int) := by omega
  have k2 : ¬ (n : Int) > 281474976710656 := by omega
  go_enter Tryd.func91, Tryd.ntmps91
  go_wp2_with fail
  refine (wayDown0_any stopL i n 108 w (endsL i) h1 h2 callL (fun v b m hv hm => metL_any b m v hm)).mono ?_
  rintro r w3 ⟨v3, rfl, ho3, hb3⟩
  have O3 := hide ho3
  have B3 := hide hb3
  obtain ⟨a3, c3, rfl⟩ := ho3.slice
  have HR : Hid (hvL i 0 n = (dw stopL i 0 n).1.reverse) := hide rfl
  generalize (dw stopL i 0 n).1.reverse = L at *
  generalize (dw stopL i 0 n).2 = D at *
  obtain ⟨p, q⟩ := D
  clear ho3 hb3
  go_wp2_with (first | (refine step_alloc zS rfl ?_; intro w4 g4 hg4 hle4 hb4; have HG4 := hide hg4; clear hg4) | (refine step_storeA wS rfl rfl rfl HG4.out rfl (One.c2 (p : Int) (q : Int)) rfl ?_))
  intro w5 hg5 hbut5
  have B5 := hide (new_below B3.out hb4 hle4 hbut5)
  have O5 := hide ((O3.out.below hb4).but hbut5 (fun hk => by have := (O3.out.lt _ hk).2; omega))
  clear hg5 hbut5 hb4 HG4 O3 B3
  go_wp2
  go_ret2
  refine ⟨_, rfl, ?_, B5.out⟩
  rw [HR.out]
  exact O5.out
set_option maxRecDepth 100000 in
set_option maxHeartbeats 1000000 in
theorem toPart_ok (m n : Nat) (w : World) (h0 : 1 ≤ m) (h1 : m ≤ n) (h2 : n ≤ 281474976710656) : Calls Tryd.prog 73 #[.int .i64 (m : Int), .int .i64 (n : Int)] w fun r w' => ∃ v, r = .returned (.tuple #[v, .int .i64 (ptM m 0 n : Int), .int .i64 0]) ∧ OwnH w' w.heap.size v (hvM m 0 n) ∧ Below w.heap.size w w' := by
  have k0 : ¬ (m : Int) < 1 := by omega
  have k1 : ¬ (m : Int) > (n : Int) := by omega
  have k2 : ¬ (n : Int) > 281474976710656 := by omega
  have k3 : (m : Int) - 1 = ((m - 1 : Nat) : Int) := by omega
  have HW := hide (fun (v : World) (c : Nat) (hv : ∀ u : World, Below v.heap.size v u → u.cell? ⟨c, 0, none⟩ = some (.int .i64 (m : Int))) => wayDown_any (stopM m) (m - 1) n 96 (.pointer (some ⟨c, 0, none⟩)) v (endsM m h0) (by omega) h2 (callM _) (fun u b k hu _ => metM_any c m b (b + k) _ u (by unfold stopM; rfl) (hv u hu)))
  rw [← k3] at HW
  clear k3
  go_enter Tryd.func73, Tryd.ntmps73
  go_wp2_with fail
  have hb0 : Below w.heap.size w (w.alloc (.cells #[.int .i64 (m : Int)] 3)) := (Below.refl _ _).alloc (Nat.le_refl _) _
  have hc0 : (w.alloc (.cells #[.int .i64 (m : Int)] 3)).cell? ⟨w.heap.size, 0, none⟩ = some (.int .i64 (m : Int)) := by simp
  refine (HW.out _ _ (fun u hu => cell_kept hc0 hu)).mono ?_
  rintro r w3 ⟨v3, rfl, ho3, hb3⟩
  generalize w.alloc (.cells #[.int .i64 (m : Int)] 3) = w2 at *
  have O3 := hide (ho3.lower hb0.size)
  have B3 := hide (on_below hb0 hb3)
  obtain ⟨a3, c3, rfl⟩ := ho3.slice
  have HR : Hid (hvM m 0 n = (dw (stopM m) (m - 1) 0 n).1.reverse) := hide rfl
  have HP : Hid (ptM m 0 n = tld (dw (stopM m) (m - 1) 0 n).2) := hide rfl
  generalize (dw (stopM m) (m - 1) 0 n).1.reverse = L at *
  generalize (dw (stopM m) (m - 1) 0 n).2 = D at *
  obtain ⟨p, q⟩ := D
  clear ho3 hb3 hb0 hc0 HW
  go_wp2_with (first | (refine step_alloc zS rfl ?_; intro w4 g4 hg4 hle4 hb4; have HG4 := hide hg4; clear hg4) | (refine step_storeA wS rfl rfl rfl HG4.out rfl (One.c2 (p : Int) (q : Int)) rfl ?_))
  intro w5 hg5 hbut5
  have B5 := hide (new_below B3.out hb4 hle4 hbut5)
  have O5 := hide ((O3.out.below hb4).but hbut5 (fun hk => by have := (O3.out.lt _ hk).2; omega))
  obtain ⟨c0, c1⟩ := Blk.two (a := (p : Int)) (b := (q : Int)) hg5
  clear hg5 hbut5 hb4 HG4 O3 B3
  by_cases hp : p = 0
  · subst hp
    have HPT : Hid (ptM m 0 n = 0) := hide HP.out
    go_wp2
    refine bodyPost_ret (results_3 rfl _ _) rfl ⟨_, by rw [HPT.out]; rfl, ?_, B5.out⟩
    rw [HR.out]
    exact O5.out
  · have hp' : ((p : Int) != 0) = true := by simp; omega
    have HPT : Hid (ptM m 0 n = 1) := hide (by rw [HP.out]; simp [tld, hp])
    go_wp2
    refine bodyPost_ret (results_3 rfl _ _) rfl ⟨_, by rw [HPT.out]; rfl, ?_, B5.out⟩
    rw [HR.out]
    exact O5.out
theorem length_bad (i n : Int) (w : World) (h : i < 0 ∨ n ≤ i ∨ 281474976710656 < n) : Calls Tryd.prog 88 #[.int .i64 i, .int .i64 n] w fun r w' => r = .returned (.tuple #[.int .i64 0, .int .i64 40]) ∧ Below w.heap.size w w' := by
  have H := hide (fun v => toLeaf_bad i n v h)
  clear h
  go_enter Tryd.func88, Tryd.ntmps88
  go_wp2_with fail
  refine (H.out _).mono ?_
  rintro r w3 ⟨rfl, hb3⟩
  go_wp2
  go_ret2
  exact ⟨rfl, hb3⟩
theorem length_ok (i n : Nat) (w : World) (h1 : i < n) (h2 : n ≤ 281474976710656) : Calls Tryd.prog 88 #[.int .i64 (i : Int), .int .i64 (n : Int)] w fun r w' => r = .returned (.tuple #[.int .i64 ((hvL i 0 n).length : Int), .int .i64 0]) ∧ Below w.heap.size w w' := by
  have H := hide (fun v => toLeaf_ok i n v h1 h2)
  have hf := hvL_few (Nat.zero_le i) (show i < 0 + n by omega) h2
  generalize hvL i 0 n = L at *
  go_enter Tryd.func88, Tryd.ntmps88
  go_wp2_with fail
  refine (H.out _).mono ?_
  rintro r w3 ⟨v3, rfl, ho3, hb3⟩
  obtain ⟨a3, c3, rfl⟩ := ho3.slice
  go_wp2
  go_ret2
  exact ⟨rfl, hb3⟩
theorem steps_bad (m n : Int) (w : World) (h : m < 1 ∨ n < m ∨ 281474976710656 < n) : Calls Tryd.prog 89 #[.int .i64 m, .int .i64 n] w fun r w' => r = .returned (.tuple #[.int .i64 0, .int .i64 40]) ∧ Below w.heap.size w w' := by
  have H := hide (fun v => toPart_bad m n v h)
  clear h
  go_enter Tryd.func89, Tryd.ntmps89
  go_wp2_with fail
  refine (H.out _).mono ?_
  rintro r w3 ⟨rfl, hb3⟩
  go_wp2
  go_ret2
  exact ⟨rfl, hb3⟩
theorem steps_ok (m n : Nat) (w : World) (h0 : 1 ≤ m) (h1 : m ≤ n) (h2 : n ≤ 281474976710656) : Calls Tryd.prog 89 #[.int .i64 (m : Int), .int .i64 (n : Int)] w fun r w' => r = .returned (.tuple #[.int .i64 (((hvM m 0 n).length + ptM m 0 n : Nat) : Int), .int .i64 0]) ∧ Below w.heap.size w w' := by
  have H := hide (fun v => toPart_ok m n v h0 h1 h2)
  have hf := hvM_few h0 (show 0 < m by omega) (show m ≤ 0 + n by omega) h2
  have hp := ptM_le m 0 n
  generalize hvM m 0 n = L at *
  generalize ptM m 0 n = T at *
  go_enter Tryd.func89, Tryd.ntmps89
  go_wp2_with fail
  refine (H.out _).mono ?_
  rintro r w3 ⟨v3, rfl, ho3, hb3⟩
  obtain ⟨a3, c3, rfl⟩ := ho3.slice
  go_wp2
  go_ret2
  exact ⟨rfl, hb3⟩

end Go.Proofs.YtconeobaohmbnaaDoor
