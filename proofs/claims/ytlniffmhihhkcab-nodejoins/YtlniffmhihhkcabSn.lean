/-
  The spans of an inclusion proof and of a consistency proof: the program's.
-/
import Derived.Test.YtlniffmhihhkcabRv
namespace Go.Proofs.Ytlniffmhihhkcab
open Go.RowKit
set_option linter.unusedVariables false

def stopI (i : Nat) (b n : Nat) : Bool := decide (b = i ∧ n = 1)
def stopM (m : Nat) (b n : Nat) : Bool := decide (b + n = m)
theorem endsI (i : Nat) : Ends (stopI i) i := fun b n hn h1 h2 => by subst hn; simp [stopI]; omega
theorem endsM (m : Nat) (hm : 1 ≤ m) : Ends (stopM m) (m - 1) := fun b n hn h1 h2 => by subst hn; simp [stopM]; omega
/-- How many halves are passed by. -/
theorem dw_len {stop : Nat → Nat → Bool} {i : Nat} (hE : Ends stop i) : ∀ (f b n : Nat), n ≤ f → b ≤ i → i < b + n → n ≤ 281474976710656 → (dw stop i b n).1.length ≤ Lib.bitLen (n - 1)
  | 0, b, n, h, _, _, _ => by omega
  | f + 1, b, n, h, h1, h2, h3 => by
    by_cases hs : stop b n = true
    · rw [dw_stop hs]; exact Nat.zero_le _
    · have hs' : stop b n = false := by simpa using hs
      have hn : 2 ≤ n := by
        rcases Nat.lt_or_ge n 2 with hlt | hge
        · exact absurd (hE b n (by omega) h1 h2) hs
        · exact hge
      have hh := hf_bd n hn (by omega)
      by_cases hc : i < b + hf n
      · rw [dw_lo hE hs' hn h3 h1 rfl hc, List.length_cons]
        have ih := dw_len hE f b (hf n) (by omega) h1 hc (by omega)
        have hb := bl_lo n (hf n) hn (by omega) (Nat.le_refl _) (by omega)
        exact Nat.le_trans (Nat.add_le_add_right ih 1) hb
      · rw [dw_hi hE hs' hn h3 h2 rfl hc, List.length_cons]
        have ih := dw_len hE f (b + hf n) (n - hf n) (by omega) (by omega) (by omega) (by omega)
        have hb := bl_lo n (n - hf n) hn (by omega) (by omega) (by omega)
        exact Nat.le_trans (Nat.add_le_add_right ih 1) hb
theorem dw_few {stop : Nat → Nat → Bool} {i b n : Nat} (hE : Ends stop i) (h1 : b ≤ i) (h2 : i < b + n) (h3 : n ≤ 281474976710656) : (dw stop i b n).1.length ≤ 48 :=
  Nat.le_trans (dw_len hE n b n (Nat.le_refl _) h1 h2 h3) (bl48 n (by omega) h3)
/-- The spans, from the leaf on. -/
def spL (i b n : Nat) : List (Nat × Nat) := (dw (stopI i) i b n).1.reverse
def tlast (p : Nat × Nat) : List (Nat × Nat) := if p.1 = 0 then [] else [p]
def stL (m b n : Nat) : List (Nat × Nat) := ((dw (stopM m) (m - 1) b n).1 ++ tlast (dw (stopM m) (m - 1) b n).2).reverse

theorem met2_any (c m b e : Nat) (q : Bool) (v : World) (hq : q = decide (e = m)) (hc : v.cell? ⟨c, 0, none⟩ = some (.int .i64 (m : Int))) :
    Calls Try.prog 6 #[.agg #[.int .i64 (b : Int), .int .i64 (e : Int)], .pointer (some ⟨c, 0, none⟩)] v fun r v' => r = .returned (.bool q) ∧ Below v.heap.size v v' := by
  have HC := hide hc
  clear hc
  by_cases h1 : e = m
  · subst h1
    obtain rfl : q = true := by rw [hq]; simp
    clear hq
    go_enter Try.func6, Try.ntmps6
    go_wp2_with (refine step_box (cs := c2 (b : Int) (e : Int)) rfl rfl ?_; intro w1 g1 hg1 hle1 hb1; obtain ⟨c0, c1⟩ := hg1.two; have d0 := cell_kept HC.out hb1; clear hg1)
    go_ret
    exact ⟨rfl, hb1⟩
  · obtain rfl : q = false := by rw [hq]; simp [h1]
    have h1' : ((e : Int) == (m : Int)) = false := by simp; omega
    clear hq
    go_enter Try.func6, Try.ntmps6
    go_wp2_with (refine step_box (cs := c2 (b : Int) (e : Int)) rfl rfl ?_; intro w1 g1 hg1 hle1 hb1; obtain ⟨c0, c1⟩ := hg1.two; have d0 := cell_kept HC.out hb1; clear hg1)
    go_ret
    exact ⟨rfl, hb1⟩

theorem steps_bad (m n : Int) (w : World) (h : m < 1 ∨ n < m ∨ 281474976710656 < n) : Calls Try.prog 4 #[.int .i64 m, .int .i64 n] w fun r w' => r = .returned (.tuple #[.slice none 0 0, .int .i64 40]) ∧ Below w.heap.size w w' := by
  by_cases h1 : m < 1
  · skip
    go_enter Try.func4, Try.ntmps4
    go_wp2
    go_ret2
    exact ⟨rfl, (Below.refl _ _).alloc (Nat.le_refl _) _⟩
  · by_cases h2 : m > n
    · skip
      go_enter Try.func4, Try.ntmps4
      go_wp2
      go_ret2
      exact ⟨rfl, (Below.refl _ _).alloc (Nat.le_refl _) _⟩
    · have h3 : n > 281474976710656 := by omega
      go_enter Try.func4, Try.ntmps4
      go_wp2
      go_ret2
      exact ⟨rfl, (Below.refl _ _).alloc (Nat.le_refl _) _⟩


theorem call2 (c : Value) (x : Value) (v : World) : (callFunc 6 #[x, c]).run Try.prog v = .ok (.enter 6 #[x, c]) v := by
  go_simp
set_option maxRecDepth 100000 in
set_option maxHeartbeats 1000000 in
theorem steps_ok (m n : Nat) (w : World) (h0 : 1 ≤ m) (h1 : m ≤ n) (h2 : n ≤ 281474976710656) : Calls Try.prog 4 #[.int .i64 (m : Int), .int .i64 (n : Int)] w fun r w' => ∃ v, r = .returned (.tuple #[v, .int .i64 0]) ∧ OwnS w' w.heap.size v (stL m 0 n) ∧ Below w.heap.size w w' := by
  have k0 : ¬ (m : Int) < 1 := by omega
  have k1 : ¬ (m : Int) > (n : Int) := by omega
  have k2 : ¬ (n : Int) > 281474976710656 := by omega
  have k3 : (m : Int) - 1 = ((m - 1 : Nat) : Int) := by omega
  have HW := hide (fun (v : World) (c : Nat) (hv : ∀ u : World, Below v.heap.size v u → u.cell? ⟨c, 0, none⟩ = some (.int .i64 (m : Int))) => wayDown_any (stopM m) (m - 1) n 6 (.pointer (some ⟨c, 0, none⟩)) v (endsM m h0) (by omega) h2 (call2 _) (fun u b k hu => met2_any c m b (b + k) _ u (by unfold stopM; rfl) (hv u hu)))
  rw [← k3] at HW
  clear k3
  go_enter Try.func4, Try.ntmps4
  go_wp2_with fail
  have hb0 : Below w.heap.size w (w.alloc (.cells #[.int .i64 (m : Int)] 3)) := (Below.refl _ _).alloc (Nat.le_refl _) _
  have hc0 : (w.alloc (.cells #[.int .i64 (m : Int)] 3)).cell? ⟨w.heap.size, 0, none⟩ = some (.int .i64 (m : Int)) := by simp
  refine (HW.out _ _ (fun u hu => cell_kept hc0 hu)).mono ?_
  rintro r w3 ⟨v3, rfl, ho3, hb3⟩
  generalize w.alloc (.cells #[.int .i64 (m : Int)] 3) = w2 at *
  have O3 := hide ho3
  have hs23 := hb3.size
  have B3 := hide (on_below hb0 hb3)
  obtain ⟨a3, l3, c3, rfl⟩ := ho3.slice
  have hlen : (dw (stopM m) (m - 1) 0 n).1.length ≤ 48 := dw_few (endsM m h0) (Nat.zero_le _) (by omega) h2
  have HL := hide (show w.heap.size ≤ w2.heap.size from hb0.size)
  have HR : Hid (stL m 0 n = ((dw (stopM m) (m - 1) 0 n).1 ++ tlast (dw (stopM m) (m - 1) 0 n).2).reverse) := hide rfl
  generalize dw (stopM m) (m - 1) 0 n = D at *
  obtain ⟨L, p, q⟩ := D
  clear ho3 hb3 hb0 hc0 HW
  simp only at hlen
  go_wp2_with (first | (refine step_alloc zS rfl ?_; intro w4 g4 hg4 hle4 hb4; have HG4 := hide hg4; clear hg4) | (refine step_storeA wS rfl rfl rfl HG4.out rfl (One.c2 (p : Int) (q : Int)) rfl ?_))
  intro w5 hg5 hbut5
  have B5 := hide (new_below B3.out hb4 hle4 hbut5)
  have O5 := hide ((O3.out.below hb4).but hbut5 (fun hk => by have := (O3.out.lt _ hk).2; omega))
  have hsz : w2.heap.size ≤ w5.heap.size := by rw [hbut5.size]; exact Nat.le_trans hs23 hb4.size
  have G5 := hide hg5
  obtain ⟨c0, c1⟩ := Blk.two (a := (p : Int)) (b := (q : Int)) hg5
  clear hg5 hbut5 hb4 HG4 O3 B3
  by_cases hp : p = 0
  · subst hp
    simp only [tlast, if_true, List.append_nil] at HR
    have hlen2 : L.length ≤ 1048576 := by omega
    go_wp2_with fail
    refine (reverse_any w2.heap.size _ _ _ hlen2 hsz O5.out).mono ?_
    rintro r w8 ⟨⟨x, rfl⟩, ho8, hb8⟩
    go_wp2
    go_ret2
    refine ⟨_, rfl, ?_, ?_⟩
    · rw [HR.out]
      exact ho8.lower HL.out
    · exact B5.out.trans (hb8.mono HL.out)
  · have hp' : ((p : Int) != 0) = true := by simp; omega
    simp only [tlast, if_neg hp] at HR
    have hlen2 : (L ++ [(p, q)]).length ≤ 1048576 := by simp; omega
    have hlen3 : L.length ≤ 1048576 := by omega
    go_wp2_with (refine steponeS (n := (p, q)) rfl rfl ?_)
    intro W1 g6 hg6 hle6 hb6
    have O6 := hide (O5.out.below hb6)
    have Y6 := hide hg6
    have B6 := hide (on_below B5.out hb6)
    have hsz6 : w2.heap.size ≤ W1.heap.size := Nat.le_trans hsz hb6.size
    clear hg6 hb6 O5 B5
    go_wp2_with (refine stepappS (v := .slice a3 l3 c3) rfl rfl rfl O6.out Y6.out hlen3 hsz6 ?_)
    intro v7 W7 ho7 hgr7 hat7
    have O7 := hide ho7
    have B7 := hide (B6.out.trans ((Below.refl _ _).grown hgr7 B6.out.size (fun k hk => Nat.le_trans HL.out (O6.out.lt k hk).1)))
    have hsz7 : w2.heap.size ≤ W7.heap.size := Nat.le_trans hsz6 hgr7.size
    obtain ⟨a7, l7, c7, rfl⟩ := ho7.slice
    clear ho7 hgr7 hat7 O6 B6 Y6
    go_wp2_with fail
    refine (reverse_any w2.heap.size _ _ _ hlen2 hsz7 O7.out).mono ?_
    rintro r w8 ⟨⟨x, rfl⟩, ho8, hb8⟩
    go_wp2
    go_ret2
    refine ⟨_, rfl, ?_, ?_⟩
    · rw [HR.out]
      exact ho8.lower HL.out
    · exact B7.out.trans (hb8.mono HL.out)

end Go.Proofs.Ytlniffmhihhkcab
