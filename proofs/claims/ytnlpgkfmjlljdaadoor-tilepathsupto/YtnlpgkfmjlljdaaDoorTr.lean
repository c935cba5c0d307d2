/-
  The tree over bytes, 32 for each digest: roots, the proofs of a leaf and of a beginning. No program here but the digest.
-/
import Derived.Test.YtnlpgkfmjlljdaaDoorHf
import Derived.Test.YtnlpgkfmjlljdaaDoorWb
namespace Go.Proofs.YtnlpgkfmjlljdaaDoor
open Go.RowKit
set_option linter.unusedVariables false

theorem dgB (m : List Int) : isB (dg bL 0 m) := wb_isB _

/-- The digests of a leaf, of two, of nothing. -/
def lf (xs : List Int) : List Int := dg bL 0 (0 :: xs)
def nd (l r : List Int) : List Int := dg bL 0 (1 :: (l ++ r))
def emp : List Int := dg bL 0 []
theorem lf_length (xs : List Int) : (lf xs).length = 32 := dg_length bL 0 _ rfl
theorem nd_length (l r : List Int) : (nd l r).length = 32 := dg_length bL 0 _ rfl
theorem emp_length : emp.length = 32 := dg_length bL 0 _ rfl
theorem lf_isB (xs : List Int) : isB (lf xs) := dgB _
theorem nd_isB (l r : List Int) : isB (nd l r) := dgB _
theorem emp_isB : isB emp := dgB _

/-- The first digests, and the others. -/
def lo (xs : List Int) : List Int := xs.take (32 * hf (xs.length / 32))
def hi (xs : List Int) : List Int := xs.drop (32 * hf (xs.length / 32))

def rt : Nat → List Int → List Int
  | 0, _ => emp
  | f + 1, xs => if xs.length = 0 then emp else if xs.length = 32 then xs else nd (rt f (lo xs)) (rt f (hi xs))
/-- The root. -/
def root (xs : List Int) : List Int := rt (xs.length / 32) xs

theorem lo_length {xs : List Int} {n : Nat} (h : xs.length = 32 * n) (h2 : 2 ≤ n) (hn : n < 2 ^ 64) : (lo xs).length = 32 * hf n := by
  have e : xs.length / 32 = n := by omega
  have := hf_bd n h2 hn
  unfold lo
  rw [e, List.length_take]
  omega
theorem hi_length {xs : List Int} {n : Nat} (h : xs.length = 32 * n) (h2 : 2 ≤ n) (hn : n < 2 ^ 64) : (hi xs).length = 32 * (n - hf n) := by
  have e : xs.length / 32 = n := by omega
  have := hf_bd n h2 hn
  unfold hi
  rw [e, List.length_drop]
  omega

theorem rt_fuel : ∀ (m f g n : Nat) (xs : List Int), n ≤ m → xs.length = 32 * n → n < 2 ^ 64 → n ≤ f → n ≤ g → rt f xs = rt g xs
  | m, 0, 0, n, xs, _, _, _, _, _ => rfl
  | m, 0, g + 1, n, xs, _, hx, _, hf0, _ => by
    have : xs.length = 0 := by omega
    simp [rt, this]
  | m, f + 1, 0, n, xs, _, hx, _, _, hg0 => by
    have : xs.length = 0 := by omega
    simp [rt, this]
  | 0, f + 1, g + 1, n, xs, hm, hx, _, _, _ => by
    have : xs.length = 0 := by omega
    simp [rt, this]
  | m + 1, f + 1, g + 1, n, xs, hm, hx, hn, hf0, hg0 => by
    by_cases h0 : n = 0
    · have : xs.length = 0 := by omega
      simp [rt, this]
    by_cases h1 : n = 1
    · have h32 : xs.length = 32 := by omega
      have hne : ¬ xs.length = 0 := by omega
      simp only [rt, if_neg hne, if_pos h32]
    · have h2 : 2 ≤ n := by omega
      have hb := hf_bd n h2 hn
      have e1 := rt_fuel m f g (hf n) (lo xs) (by omega) (lo_length hx h2 hn) (by omega) (by omega) (by omega)
      have e2 := rt_fuel m f g (n - hf n) (hi xs) (by omega) (hi_length hx h2 hn) (by omega) (by omega) (by omega)
      simp only [rt, e1, e2]

theorem root_zero {xs : List Int} (h : xs.length = 0) : root xs = emp := by unfold root; rw [h]; rfl
theorem root_one {xs : List Int} (h : xs.length = 32) : root xs = xs := by
  unfold root
  rw [h]
  have hne : ¬ xs.length = 0 := by omega
  show rt 1 xs = xs
  simp only [rt, if_neg hne, if_pos h]
theorem root_node {xs : List Int} {n : Nat} (h : xs.length = 32 * n) (h2 : 2 ≤ n) (hn : n < 2 ^ 64) : root xs = nd (root (lo xs)) (root (hi xs)) := by
  have hb := hf_bd n h2 hn
  have e1 := rt_fuel n (n - 1) (hf n) (hf n) (lo xs) (by omega) (lo_length h h2 hn) (by omega) (by omega) (by omega)
  have e2 := rt_fuel n (n - 1) (n - hf n) (n - hf n) (hi xs) (by omega) (hi_length h h2 hn) (by omega) (by omega) (by omega)
  have l1 : (lo xs).length / 32 = hf n := by rw [lo_length h h2 hn]; omega
  have l2 : (hi xs).length / 32 = n - hf n := by rw [hi_length h h2 hn]; omega
  have e : xs.length / 32 = (n - 1) + 1 := by omega
  unfold root
  rw [l1, l2, ← e1, ← e2, e]
  have n1 : ¬ xs.length = 0 := by omega
  have n2 : ¬ xs.length = 32 := by omega
  simp only [rt, if_neg n1, if_neg n2]
theorem lo_eq {xs : List Int} {n : Nat} (h : xs.length = 32 * n) : lo xs = xs.take (32 * hf n) := by
  unfold lo; rw [show xs.length / 32 = n by omega]
theorem hi_eq {xs : List Int} {n : Nat} (h : xs.length = 32 * n) : hi xs = xs.drop (32 * hf n) := by
  unfold hi; rw [show xs.length / 32 = n by omega]
theorem rt_bd (f n : Nat) : ∀ (xs : List Int), xs.length = 32 * n → isB xs → (rt f xs).length = 32 ∧ isB (rt f xs) := by
  intro xs hx hb
  cases f with
  | zero => exact ⟨emp_length, emp_isB⟩
  | succ f =>
    unfold rt
    split
    · exact ⟨emp_length, emp_isB⟩
    · split
      · rename_i h; exact ⟨h, hb⟩
      · exact ⟨nd_length _ _, nd_isB _ _⟩
theorem root_length {xs : List Int} {n : Nat} (h : xs.length = 32 * n) (hb : isB xs) : (root xs).length = 32 := (rt_bd _ n xs h hb).1
theorem root_isB {xs : List Int} {n : Nat} (h : xs.length = 32 * n) (hb : isB xs) : isB (root xs) := (rt_bd _ n xs h hb).2
theorem lo_isB {xs : List Int} (h : isB xs) : isB (lo xs) := h.take _
theorem hi_isB {xs : List Int} (h : isB xs) : isB (hi xs) := h.drop _

/-- The proof of a leaf. -/
def pt : Nat → List Int → Nat → List Int
  | 0, _, _ => []
  | f + 1, xs, i => if xs.length ≤ 32 then [] else if i < hf (xs.length / 32) then pt f (lo xs) i ++ root (hi xs) else pt f (hi xs) (i - hf (xs.length / 32)) ++ root (lo xs)
def path (xs : List Int) (i : Nat) : List Int := pt (xs.length / 32) xs i

theorem pt_fuel : ∀ (m f g n i : Nat) (xs : List Int), n ≤ m → xs.length = 32 * n → n < 2 ^ 64 → n ≤ f → n ≤ g → pt f xs i = pt g xs i
  | m, 0, 0, n, i, xs, _, _, _, _, _ => rfl
  | m, 0, g + 1, n, i, xs, _, hx, _, hf0, _ => by
    have : xs.length ≤ 32 := by omega
    simp [pt, this]
  | m, f + 1, 0, n, i, xs, _, hx, _, _, hg0 => by
    have : xs.length ≤ 32 := by omega
    simp [pt, this]
  | 0, f + 1, g + 1, n, i, xs, hm, hx, _, _, _ => by
    have : xs.length ≤ 32 := by omega
    simp [pt, this]
  | m + 1, f + 1, g + 1, n, i, xs, hm, hx, hn, hf0, hg0 => by
    by_cases h1 : n ≤ 1
    · have : xs.length ≤ 32 := by omega
      simp [pt, this]
    · have h2 : 2 ≤ n := by omega
      have hb := hf_bd n h2 hn
      have e1 := fun j => pt_fuel m f g (hf n) j (lo xs) (by omega) (lo_length hx h2 hn) (by omega) (by omega) (by omega)
      have e2 := fun j => pt_fuel m f g (n - hf n) j (hi xs) (by omega) (hi_length hx h2 hn) (by omega) (by omega) (by omega)
      simp only [pt, e1, e2]
theorem path_one {xs : List Int} {i : Nat} (h : xs.length = 32) : path xs i = [] := by
  unfold path
  rw [h]
  have hle : xs.length ≤ 32 := by omega
  show pt 1 xs i = []
  simp only [pt, if_pos hle]
theorem path_lo {xs : List Int} {n i : Nat} (h : xs.length = 32 * n) (h2 : 2 ≤ n) (hn : n < 2 ^ 64) (hi' : i < hf n) : path xs i = path (lo xs) i ++ root (hi xs) := by
  have hb := hf_bd n h2 hn
  have e1 := pt_fuel n (n - 1) (hf n) (hf n) i (lo xs) (by omega) (lo_length h h2 hn) (by omega) (by omega) (by omega)
  have l1 : (lo xs).length / 32 = hf n := by rw [lo_length h h2 hn]; omega
  have e0 : xs.length / 32 = n := by omega
  have e : n = (n - 1) + 1 := by omega
  have n1 : ¬ xs.length ≤ 32 := by omega
  unfold path
  rw [l1, ← e1, e0, e]
  simp only [pt, if_neg n1, e0, if_pos hi']
  rfl
theorem path_hi {xs : List Int} {n i : Nat} (h : xs.length = 32 * n) (h2 : 2 ≤ n) (hn : n < 2 ^ 64) (hi' : hf n ≤ i) : path xs i = path (hi xs) (i - hf n) ++ root (lo xs) := by
  have hb := hf_bd n h2 hn
  have e1 := pt_fuel n (n - 1) (n - hf n) (n - hf n) (i - hf n) (hi xs) (by omega) (hi_length h h2 hn) (by omega) (by omega) (by omega)
  have l1 : (hi xs).length / 32 = n - hf n := by rw [hi_length h h2 hn]; omega
  have e0 : xs.length / 32 = n := by omega
  have e : n = (n - 1) + 1 := by omega
  have n1 : ¬ xs.length ≤ 32 := by omega
  have n2 : ¬ i < hf n := by omega
  unfold path
  rw [l1, ← e1, e0, e]
  simp only [pt, if_neg n1, e0, if_neg n2]
  rfl
/-- How many digests it has. -/
theorem path_bd : ∀ (m n i : Nat) (xs : List Int), n ≤ m → 0 < n → xs.length = 32 * n → n < 2 ^ 64 → isB xs → i < n → (∃ q, (path xs i).length = 32 * q ∧ q ≤ Lib.bitLen (n - 1)) ∧ isB (path xs i)
  | 0, n, i, xs, hm, h0, hx, hn, hb, hi' => by omega
  | m + 1, n, i, xs, hm, h0, hx, hn, hb, hi' => by
    by_cases h1 : n = 1
    · rw [path_one (by omega)]
      exact ⟨⟨0, rfl, by omega⟩, by intro x hx; simp at hx⟩
    · have h2 : 2 ≤ n := by omega
      have hbd := hf_bd n h2 hn
      by_cases hlt : i < hf n
      · rw [path_lo hx h2 hn hlt]
        obtain ⟨⟨q, hq, hl⟩, hB⟩ := path_bd m (hf n) i (lo xs) (by omega) (by omega) (lo_length hx h2 hn) (by omega) (lo_isB hb) hlt
        have := bl_lo n (hf n) h2 hn (Nat.le_refl _) (by omega)
        refine ⟨⟨q + 1, ?_, by omega⟩, hB.append (root_isB (hi_length hx h2 hn) (hi_isB hb))⟩
        rw [List.length_append, hq, root_length (hi_length hx h2 hn) (hi_isB hb)]
        omega
      · rw [path_hi hx h2 hn (by omega)]
        obtain ⟨⟨q, hq, hl⟩, hB⟩ := path_bd m (n - hf n) (i - hf n) (hi xs) (by omega) (by omega) (hi_length hx h2 hn) (by omega) (hi_isB hb) (by omega)
        have := bl_lo n (n - hf n) h2 hn (by omega) (by omega)
        refine ⟨⟨q + 1, ?_, by omega⟩, hB.append (root_isB (lo_length hx h2 hn) (lo_isB hb))⟩
        rw [List.length_append, hq, root_length (lo_length hx h2 hn) (lo_isB hb)]
        omega

/-- The proof of a beginning. -/
def sp : Nat → List Int → Nat → Bool → List Int
  | 0, _, _, _ => []
  | f + 1, xs, m, wh => if m = xs.length / 32 then (if wh = true then [] else root xs) else if m ≤ hf (xs.length / 32) then sp f (lo xs) m wh ++ root (hi xs) else sp f (hi xs) (m - hf (xs.length / 32)) false ++ root (lo xs)
def steps (xs : List Int) (m : Nat) (wh : Bool) : List Int := sp (xs.length / 32) xs m wh

theorem sp_fuel : ∀ (k f g n m : Nat) (wh : Bool) (xs : List Int), n ≤ k → 0 < m → m ≤ n → xs.length = 32 * n → n < 2 ^ 64 → n ≤ f → n ≤ g → sp f xs m wh = sp g xs m wh
  | k, 0, g, n, m, wh, xs, _, _, _, _, _, _, _ => by omega
  | k, f + 1, 0, n, m, wh, xs, _, _, _, _, _, _, _ => by omega
  | 0, f + 1, g + 1, n, m, wh, xs, _, _, _, _, _, _, _ => by omega
  | k + 1, f + 1, g + 1, n, m, wh, xs, hk, h0, hm, hx, hn, hf0, hg0 => by
    have e0 : xs.length / 32 = n := by omega
    by_cases h1 : m = n
    · simp only [sp, e0, if_pos h1]
    · have h2 : 2 ≤ n := by omega
      have hb := hf_bd n h2 hn
      by_cases hlt : m ≤ hf n
      · have e1 := sp_fuel k f g (hf n) m wh (lo xs) (by omega) h0 hlt (lo_length hx h2 hn) (by omega) (by omega) (by omega)
        simp only [sp, e0, if_neg h1, if_pos hlt, e1]
      · have e2 := sp_fuel k f g (n - hf n) (m - hf n) false (hi xs) (by omega) (by omega) (by omega) (hi_length hx h2 hn) (by omega) (by omega) (by omega)
        simp only [sp, e0, if_neg h1, if_neg hlt, e2]
theorem steps_all {xs : List Int} {n : Nat} {wh : Bool} (h : xs.length = 32 * n) (h0 : 0 < n) : steps xs n wh = if wh = true then [] else root xs := by
  have e0 : xs.length / 32 = n := by omega
  have e : n = (n - 1) + 1 := by omega
  unfold steps
  rw [e0, e]
  simp only [sp, e0, ← e, if_true]
theorem steps_lo {xs : List Int} {n m : Nat} {wh : Bool} (h : xs.length = 32 * n) (h0 : 0 < m) (hmn : m < n) (hn : n < 2 ^ 64) (hm : m ≤ hf n) : steps xs m wh = steps (lo xs) m wh ++ root (hi xs) := by
  have h2 : 2 ≤ n := by omega
  have hb := hf_bd n h2 hn
  have e1 := sp_fuel n (n - 1) (hf n) (hf n) m wh (lo xs) (by omega) h0 hm (lo_length h h2 hn) (by omega) (by omega) (by omega)
  have l1 : (lo xs).length / 32 = hf n := by rw [lo_length h h2 hn]; omega
  have e0 : xs.length / 32 = n := by omega
  have e : n = (n - 1) + 1 := by omega
  have n1 : ¬ m = n := by omega
  unfold steps
  rw [l1, ← e1, e0, e]
  simp only [sp, e0, if_neg n1, if_pos hm]
  rfl
theorem steps_hi {xs : List Int} {n m : Nat} {wh : Bool} (h : xs.length = 32 * n) (hmn : m < n) (hn : n < 2 ^ 64) (hm : hf n < m) : steps xs m wh = steps (hi xs) (m - hf n) false ++ root (lo xs) := by
  have h2 : 2 ≤ n := by omega
  have hb := hf_bd n h2 hn
  have e1 := sp_fuel n (n - 1) (n - hf n) (n - hf n) (m - hf n) false (hi xs) (by omega) (by omega) (by omega) (hi_length h h2 hn) (by omega) (by omega) (by omega)
  have l1 : (hi xs).length / 32 = n - hf n := by rw [hi_length h h2 hn]; omega
  have e0 : xs.length / 32 = n := by omega
  have e : n = (n - 1) + 1 := by omega
  have n1 : ¬ m = n := by omega
  have n2 : ¬ m ≤ hf n := by omega
  unfold steps
  rw [l1, ← e1, e0, e]
  simp only [sp, e0, if_neg n1, if_neg n2]
  rfl
theorem steps_bd : ∀ (k n m : Nat) (wh : Bool) (xs : List Int), n ≤ k → 0 < m → m ≤ n → xs.length = 32 * n → n < 2 ^ 64 → isB xs → (∃ q, (steps xs m wh).length = 32 * q ∧ q ≤ Lib.bitLen (n - 1) + 1) ∧ isB (steps xs m wh)
  | 0, n, m, wh, xs, hk, h0, hm, hx, hn, hb => by omega
  | k + 1, n, m, wh, xs, hk, h0, hm, hx, hn, hb => by
    by_cases h1 : m = n
    · subst h1
      rw [steps_all hx h0]
      split
      · exact ⟨⟨0, rfl, by omega⟩, by intro x hx; simp at hx⟩
      · exact ⟨⟨1, by rw [root_length hx hb], by omega⟩, root_isB hx hb⟩
    · have h2 : 2 ≤ n := by omega
      have hbd := hf_bd n h2 hn
      by_cases hlt : m ≤ hf n
      · rw [steps_lo hx h0 (by omega) hn hlt]
        obtain ⟨⟨q, hq, hl⟩, hB⟩ := steps_bd k (hf n) m wh (lo xs) (by omega) h0 hlt (lo_length hx h2 hn) (by omega) (lo_isB hb)
        have := bl_lo n (hf n) h2 hn (Nat.le_refl _) (by omega)
        refine ⟨⟨q + 1, ?_, by omega⟩, hB.append (root_isB (hi_length hx h2 hn) (hi_isB hb))⟩
        rw [List.length_append, hq, root_length (hi_length hx h2 hn) (hi_isB hb)]
        omega
      · rw [steps_hi hx (by omega) hn (by omega)]
        obtain ⟨⟨q, hq, hl⟩, hB⟩ := steps_bd k (n - hf n) (m - hf n) false (hi xs) (by omega) (by omega) (by omega) (hi_length hx h2 hn) (by omega) (hi_isB hb)
        have := bl_lo n (n - hf n) h2 hn (by omega) (by omega)
        refine ⟨⟨q + 1, ?_, by omega⟩, hB.append (root_isB (lo_length hx h2 hn) (lo_isB hb))⟩
        rw [List.length_append, hq, root_length (lo_length hx h2 hn) (lo_isB hb)]
        omega

end Go.Proofs.YtnlpgkfmjlljdaaDoor
