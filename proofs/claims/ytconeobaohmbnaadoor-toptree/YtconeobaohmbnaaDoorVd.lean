/-
  The way down a tree, half by half (0: the first, 1: the second): what is taken, and the part that is met. No program here.
-/
import Derived.Test.YtconeobaohmbnaaDoorHf
namespace Go.Proofs.YtconeobaohmbnaaDoor
open Go.RowKit
set_option linter.unusedVariables false

theorem bl48 (n : Nat) (h : 1 ≤ n) (hn : n ≤ 281474976710656) : Lib.bitLen (n - 1) ≤ 48 := bl_le (n - 1) 48 (by omega) (by decide)
/-- The halves that are taken on the way down to the leaf i, and the part that is met. -/
def dn (stop : Nat → Nat → Bool) (i : Nat) : Nat → Nat → Nat → List Int × (Nat × Nat)
  | 0, b, n => ([], (b, b + n))
  | f + 1, b, n => if stop b n then ([], (b, b + n)) else
      if i < b + hf n then (0 :: (dn stop i f b (hf n)).1, (dn stop i f b (hf n)).2)
      else (1 :: (dn stop i f (b + hf n) (n - hf n)).1, (dn stop i f (b + hf n) (n - hf n)).2)
theorem dn_stop {stop : Nat → Nat → Bool} {i b n : Nat} (h : stop b n = true) (f : Nat) : dn stop i f b n = ([], (b, b + n)) := by
  cases f with
  | zero => rfl
  | succ f => rw [dn, if_pos h]
/-- What stops by itself. -/
def Ends (stop : Nat → Nat → Bool) (i : Nat) : Prop := ∀ b n, n = 1 → b ≤ i → i < b + n → stop b n = true
theorem dn_fuel {stop : Nat → Nat → Bool} {i : Nat} (hE : Ends stop i) : ∀ f g b n, n ≤ f → n ≤ g → 1 ≤ n → n ≤ 281474976710656 → b ≤ i → i < b + n → dn stop i f b n = dn stop i g b n
  | 0, g, b, n, h1, h2, h3, _, _, _ => by omega
  | f + 1, 0, b, n, h1, h2, h3, _, _, _ => by omega
  | f + 1, g + 1, b, n, h1, h2, h3, h4, h5, h6 => by
    unfold dn
    by_cases hs : stop b n = true
    · rw [if_pos hs, if_pos hs]
    · rw [if_neg hs, if_neg hs]
      have hn : 2 ≤ n := by
        apply Nat.lt_of_le_of_ne h3
        intro e
        exact hs (hE b n e.symm h5 h6)
      have hh := hf_bd n hn (by omega)
      by_cases hc : i < b + hf n
      · rw [if_pos hc, if_pos hc, dn_fuel hE f g b (hf n) (by omega) (by omega) (by omega) (by omega) h5 hc]
      · rw [if_neg hc, if_neg hc, dn_fuel hE f g (b + hf n) (n - hf n) (by omega) (by omega) (by omega) (by omega) (by omega) (by omega)]
/-- .. with fuel enough. -/
def dw (stop : Nat → Nat → Bool) (i b n : Nat) : List Int × (Nat × Nat) := dn stop i n b n
theorem dw_stop {stop : Nat → Nat → Bool} {i b n : Nat} (h : stop b n = true) : dw stop i b n = ([], (b, b + n)) := dn_stop h n
theorem dw_lo {stop : Nat → Nat → Bool} {i b n k : Nat} (hE : Ends stop i) (h : stop b n = false) (h2 : 2 ≤ n) (hn : n ≤ 281474976710656) (hb : b ≤ i) (hk : hf n = k) (hc : i < b + k) : dw stop i b n = (0 :: (dw stop i b k).1, (dw stop i b k).2) := by
  subst hk
  have hh := hf_bd n h2 (by omega)
  unfold dw
  obtain ⟨f, rfl⟩ : ∃ f, n = f + 1 := ⟨n - 1, by omega⟩
  rw [dn, if_neg (by rw [h]; exact Bool.false_ne_true), if_pos hc, dn_fuel hE f (hf (f + 1)) b (hf (f + 1)) (by omega) (Nat.le_refl _) (by omega) (by omega) hb hc]
theorem dw_hi {stop : Nat → Nat → Bool} {i b n k : Nat} (hE : Ends stop i) (h : stop b n = false) (h2 : 2 ≤ n) (hn : n ≤ 281474976710656) (hi : i < b + n) (hk : hf n = k) (hc : ¬ i < b + k) : dw stop i b n = (1 :: (dw stop i (b + k) (n - k)).1, (dw stop i (b + k) (n - k)).2) := by
  subst hk
  have hh := hf_bd n h2 (by omega)
  unfold dw
  obtain ⟨f, rfl⟩ : ∃ f, n = f + 1 := ⟨n - 1, by omega⟩
  rw [dn, if_neg (by rw [h]; exact Bool.false_ne_true), if_neg hc, dn_fuel hE f (f + 1 - hf (f + 1)) (b + hf (f + 1)) (f + 1 - hf (f + 1)) (by omega) (Nat.le_refl _) (by omega) (by omega) (by omega) (by omega)]

/-- What is kept from round to round. -/
structure WI (stop : Nat → Nat → Bool) (i N : Nat) (b n : Nat) (ps : List Int) : Prop where
  all : ps ++ (dw stop i b n).1 = (dw stop i 0 N).1
  last : (dw stop i b n).2 = (dw stop i 0 N).2
  lo : b ≤ i
  hi : i < b + n
  top : b + n ≤ 281474976710656
  few : ps.length + Lib.bitLen (n - 1) ≤ 48
theorem WI.start {stop : Nat → Nat → Bool} {i N : Nat} (h : i < N) (hN : N ≤ 281474976710656) : WI stop i N 0 N [] := ⟨rfl, rfl, by omega, by omega, by omega, by simpa using bl48 N (by omega) hN⟩
theorem WI.two {stop : Nat → Nat → Bool} {i N b n : Nat} {ps : List Int} (hE : Ends stop i) (h : WI stop i N b n ps) (hs : stop b n = false) : 2 ≤ n := by
  have h1 := h.lo
  have h2 := h.hi
  rcases Nat.lt_or_ge n 2 with hlt | hge
  · have := hE b n (by omega) h1 h2
    rw [hs] at this
    cases this
  · exact hge
theorem WI.lower {stop : Nat → Nat → Bool} {i N b n k : Nat} {ps : List Int} (hE : Ends stop i) (h : WI stop i N b n ps) (hs : stop b n = false) (hk : hf n = k) (hc : i < b + k) : WI stop i N b k (ps ++ [0]) := by
  have h2 := h.two hE hs
  have hh := hf_bd n h2 (by have := h.top; omega)
  have hb := bl_lo n k h2 (by have := h.top; omega) (by omega) (by omega)
  have hd := dw_lo hE hs h2 (by have := h.top; omega) h.lo hk hc
  refine ⟨?_, ?_, h.lo, hc, by have := h.top; omega, ?_⟩
  · rw [← h.all, hd]; simp
  · rw [← h.last, hd]
  · have := h.few
    rw [List.length_append, List.length_singleton]
    omega
theorem WI.upper {stop : Nat → Nat → Bool} {i N b n k : Nat} {ps : List Int} (hE : Ends stop i) (h : WI stop i N b n ps) (hs : stop b n = false) (hk : hf n = k) (hc : ¬ i < b + k) : WI stop i N (b + k) (n - k) (ps ++ [1]) := by
  have h2 := h.two hE hs
  have hh := hf_bd n h2 (by have := h.top; omega)
  have hb := bl_lo n (n - k) h2 (by have := h.top; omega) (by omega) (by omega)
  have hd := dw_hi hE hs h2 (by have := h.top; omega) h.hi hk hc
  refine ⟨?_, ?_, by omega, by have := h.hi; omega, by have := h.top; omega, ?_⟩
  · rw [← h.all, hd]; simp
  · rw [← h.last, hd]
  · have := h.few
    rw [List.length_append, List.length_singleton]
    omega

def stopL (b n : Nat) : Bool := decide (n = 1)
def stopM (m : Nat) (b n : Nat) : Bool := decide (b + n = m)
theorem endsL (i : Nat) : Ends stopL i := fun b n hn h1 h2 => by subst hn; simp [stopL]
theorem endsM (m : Nat) (hm : 1 ≤ m) : Ends (stopM m) (m - 1) := fun b n hn h1 h2 => by subst hn; simp [stopM]; omega
/-- How many halves are passed by. -/
theorem dw_len {stop : Nat → Nat → Bool} {i : Nat} (hE : Ends stop i) : ∀ (f b n : Nat), n ≤ f → b ≤ i → i < b + n → n ≤ 281474976710656 → (dw stop i b n).1.length ≤ Lib.bitLen (n - 1)
  | 0, b, n, h, _, _, _ => by omega
  | f + 1, b, n, h, h1, h2, h3 => by
    by_cases hs : stop b n = true
    · rw [dw_stop hs]; exact Nat.zero_le _
    · have hs' : stop b n = false := by simpa using hs
      have hn : 2 ≤ n := by
        rcases Nat.lt_or_ge n 2 with hlt | hge
        · exact absurd (hE b n (by omega) h1 h2) hs
        · exact hge
      have hh := hf_bd n hn (by omega)
      by_cases hc : i < b + hf n
      · rw [dw_lo hE hs' hn h3 h1 rfl hc, List.length_cons]
        have ih := dw_len hE f b (hf n) (by omega) h1 hc (by omega)
        have hb := bl_lo n (hf n) hn (by omega) (Nat.le_refl _) (by omega)
        exact Nat.le_trans (Nat.add_le_add_right ih 1) hb
      · rw [dw_hi hE hs' hn h3 h2 rfl hc, List.length_cons]
        have ih := dw_len hE f (b + hf n) (n - hf n) (by omega) (by omega) (by omega) (by omega)
        have hb := bl_lo n (n - hf n) hn (by omega) (by omega) (by omega)
        exact Nat.le_trans (Nat.add_le_add_right ih 1) hb
theorem dw_few {stop : Nat → Nat → Bool} {i b n : Nat} (hE : Ends stop i) (h1 : b ≤ i) (h2 : i < b + n) (h3 : n ≤ 281474976710656) : (dw stop i b n).1.length ≤ 48 :=
  Nat.le_trans (dw_len hE n b n (Nat.le_refl _) h1 h2 h3) (bl48 n (by omega) h3)
/-- Is a digest of the part itself in the proof? -/
def tld (p : Nat × Nat) : Nat := if p.1 = 0 then 0 else 1
/-- The halves, the lowest first. -/
def hvL (i b n : Nat) : List Int := (dw stopL i b n).1.reverse
def hvM (m b n : Nat) : List Int := (dw (stopM m) (m - 1) b n).1.reverse
def ptM (m b n : Nat) : Nat := tld (dw (stopM m) (m - 1) b n).2
theorem hvL_few {i b n : Nat} (h1 : b ≤ i) (h2 : i < b + n) (h3 : n ≤ 281474976710656) : (hvL i b n).length ≤ 48 := by
  unfold hvL; rw [List.length_reverse]; exact dw_few (endsL i) h1 h2 h3
theorem hvM_few {m b n : Nat} (hm : 1 ≤ m) (h1 : b < m) (h2 : m ≤ b + n) (h3 : n ≤ 281474976710656) : (hvM m b n).length ≤ 48 := by
  unfold hvM; rw [List.length_reverse]; exact dw_few (endsM m hm) (by omega) (by omega) h3
theorem ptM_le (m b n : Nat) : ptM m b n ≤ 1 := by unfold ptM tld; split <;> omega
theorem hvL_one (i b : Nat) : hvL i b 1 = [] := by unfold hvL; rw [dw_stop (by simp [stopL])]; rfl
theorem hvL_lo {i b n : Nat} (h2 : 2 ≤ n) (hn : n ≤ 281474976710656) (hb : b ≤ i) (hc : i < b + hf n) : hvL i b n = hvL i b (hf n) ++ [0] := by
  unfold hvL; rw [dw_lo (endsL i) (by simp [stopL]; omega) h2 hn hb rfl hc]; simp
theorem hvL_hi {i b n : Nat} (h2 : 2 ≤ n) (hn : n ≤ 281474976710656) (hi : i < b + n) (hc : ¬ i < b + hf n) : hvL i b n = hvL i (b + hf n) (n - hf n) ++ [1] := by
  unfold hvL; rw [dw_hi (endsL i) (by simp [stopL]; omega) h2 hn hi rfl hc]; simp
theorem hvM_end {m b n : Nat} (h : b + n = m) : hvM m b n = [] ∧ ptM m b n = (if b = 0 then 0 else 1) := by
  unfold hvM ptM tld; rw [dw_stop (by simp [stopM]; omega)]; exact ⟨rfl, rfl⟩
theorem hvM_lo {m b n : Nat} (hm : 1 ≤ m) (hs : b + n ≠ m) (h2 : 2 ≤ n) (hn : n ≤ 281474976710656) (hb : b < m) (hc : m - 1 < b + hf n) : hvM m b n = hvM m b (hf n) ++ [0] ∧ ptM m b n = ptM m b (hf n) := by
  unfold hvM ptM; rw [dw_lo (endsM m hm) (by simp [stopM]; omega) h2 hn (by omega) rfl hc]; simp
theorem hvM_hi {m b n : Nat} (hm : 1 ≤ m) (hs : b + n ≠ m) (h2 : 2 ≤ n) (hn : n ≤ 281474976710656) (hi : m ≤ b + n) (hb : b < m) (hc : ¬ m - 1 < b + hf n) : hvM m b n = hvM m (b + hf n) (n - hf n) ++ [1] ∧ ptM m b n = ptM m (b + hf n) (n - hf n) := by
  unfold hvM ptM; rw [dw_hi (endsM m hm) (by simp [stopM]; omega) h2 hn (by omega) rfl hc]; simp

end Go.Proofs.YtconeobaohmbnaaDoor
