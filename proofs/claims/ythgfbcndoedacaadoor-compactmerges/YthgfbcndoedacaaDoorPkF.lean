/-
  Texts one behind the other: Tr Td Tn Bl Dg Rt.
-/
import Derived.Test.YthgfbcndoedacaaDoorPkE
import Derived.Test.YthgfbcndoedacaaDoorPkC
import Derived.Test.YthgfbcndoedacaaDoorProg
import Derived.WalkKit
import Derived.WalkSpells
import Derived.WalkLawsBesides
import Derived.Lib.Strings
import Derived.Lib.Small
import Derived.Lib.Walk

/-
  The tree over bytes, 32 for each digest: roots, the proofs of a leaf and of a beginning. No program here but the digest.
-/
namespace Go.Proofs.YthgfbcndoedacaaDoor
open Go.RowKit
set_option linter.unusedVariables false

theorem dgB (m : List Int) : isB (dg bL 0 m) := wb_isB _

/-- The digests of a leaf, of two, of nothing. -/
def lf (xs : List Int) : List Int := dg bL 0 (0 :: xs)
def nd (l r : List Int) : List Int := dg bL 0 (1 :: (l ++ r))
def emp : List Int := dg bL 0 []
theorem lf_length (xs : List Int) : (lf xs).length = 32 := dg_length bL 0 _ rfl
theorem nd_length (l r : List Int) : (nd l r).length = 32 := dg_length bL 0 _ rfl
theorem emp_length : emp.length = 32 := dg_length bL 0 _ rfl
theorem lf_isB (xs : List Int) : isB (lf xs) := dgB _
theorem nd_isB (l r : List Int) : isB (nd l r) := dgB _
theorem emp_isB : isB emp := dgB _

/-- The first digests, and the others. -/
def lo (xs : List Int) : List Int := xs.take (32 * hf (xs.length / 32))
def hi (xs : List Int) : List Int := xs.drop (32 * hf (xs.length / 32))

def rt : Nat → List Int → List Int
  | 0, _ => emp
  | f + 1, xs => if xs.length = 0 then emp else if xs.length = 32 then xs else nd (rt f (lo xs)) (rt f (hi xs))
/-- The root. -/
def root (xs : List Int) : List Int := rt (xs.length / 32) xs

theorem lo_length {xs : List Int} {n : Nat} (h : xs.length = 32 * n) (h2 : 2 ≤ n) (hn : n < 2 ^ 64) : (lo xs).length = 32 * hf n := by
  have e : xs.length / 32 = n := by omega
  have := hf_bd n h2 hn
  unfold lo
  rw [e, List.length_take]
  omega
theorem hi_length {xs : List Int} {n : Nat} (h : xs.length = 32 * n) (h2 : 2 ≤ n) (hn : n < 2 ^ 64) : (hi xs).length = 32 * (n - hf n) := by
  have e : xs.length / 32 = n := by omega
  have := hf_bd n h2 hn
  unfold hi
  rw [e, List.length_drop]
  omega

theorem rt_fuel : ∀ (m f g n : Nat) (xs : List Int), n ≤ m → xs.length = 32 * n → n < 2 ^ 64 → n ≤ f → n ≤ g → rt f xs = rt g xs
  | m, 0, 0, n, xs, _, _, _, _, _ => rfl
  | m, 0, g + 1, n, xs, _, hx, _, hf0, _ => by
    have : xs.length = 0 := by omega
    simp [rt, this]
  | m, f + 1, 0, n, xs, _, hx, _, _, hg0 => by
    have : xs.length = 0 := by omega
    simp [rt, this]
  | 0, f + 1, g + 1, n, xs, hm, hx, _, _, _ => by
    have : xs.length = 0 := by omega
    simp [rt, this]
  | m + 1, f + 1, g + 1, n, xs, hm, hx, hn, hf0, hg0 => by
    by_cases h0 : n = 0
    · have : xs.length = 0 := by omega
      simp [rt, this]
    by_cases h1 : n = 1
    · have h32 : xs.length = 32 := by omega
      have hne : ¬ xs.length = 0 := by omega
      simp only [rt, if_neg hne, if_pos h32]
    · have h2 : 2 ≤ n := by omega
      have hb := hf_bd n h2 hn
      have e1 := rt_fuel m f g (hf n) (lo xs) (by omega) (lo_length hx h2 hn) (by omega) (by omega) (by omega)
      have e2 := rt_fuel m f g (n - hf n) (hi xs) (by omega) (hi_length hx h2 hn) (by omega) (by omega) (by omega)
      simp only [rt, e1, e2]

theorem root_zero {xs : List Int} (h : xs.length = 0) : root xs = emp := by unfold root; rw [h]; rfl
theorem root_one {xs : List Int} (h : xs.length = 32) : root xs = xs := by
  unfold root
  rw [h]
  have hne : ¬ xs.length = 0 := by omega
  show rt 1 xs = xs
  simp only [rt, if_neg hne, if_pos h]
theorem root_node {xs : List Int} {n : Nat} (h : xs.length = 32 * n) (h2 : 2 ≤ n) (hn : n < 2 ^ 64) : root xs = nd (root (lo xs)) (root (hi xs)) := by
  have hb := hf_bd n h2 hn
  have e1 := rt_fuel n (n - 1) (hf n) (hf n) (lo xs) (by omega) (lo_length h h2 hn) (by omega) (by omega) (by omega)
  have e2 := rt_fuel n (n - 1) (n - hf n) (n - hf n) (hi xs) (by omega) (hi_length h h2 hn) (by omega) (by omega) (by omega)
  have l1 : (lo xs).length / 32 = hf n := by rw [lo_length h h2 hn]; omega
  have l2 : (hi xs).length / 32 = n - hf n := by rw [hi_length h h2 hn]; omega
  have e : xs.length / 32 = (n - 1) + 1 := by omega
  unfold root
  rw [l1, l2, ← e1, ← e2, e]
  have n1 : ¬ xs.length = 0 := by omega
  have n2 : ¬ xs.length = 32 := by omega
  simp only [rt, if_neg n1, if_neg n2]
theorem lo_eq {xs : List Int} {n : Nat} (h : xs.length = 32 * n) : lo xs = xs.take (32 * hf n) := by
  unfold lo; rw [show xs.length / 32 = n by omega]
theorem hi_eq {xs : List Int} {n : Nat} (h : xs.length = 32 * n) : hi xs = xs.drop (32 * hf n) := by
  unfold hi; rw [show xs.length / 32 = n by omega]
theorem rt_bd (f n : Nat) : ∀ (xs : List Int), xs.length = 32 * n → isB xs → (rt f xs).length = 32 ∧ isB (rt f xs) := by
  intro xs hx hb
  cases f with
  | zero => exact ⟨emp_length, emp_isB⟩
  | succ f =>
    unfold rt
    split
    · exact ⟨emp_length, emp_isB⟩
    · split
      · rename_i h; exact ⟨h, hb⟩
      · exact ⟨nd_length _ _, nd_isB _ _⟩
theorem root_length {xs : List Int} {n : Nat} (h : xs.length = 32 * n) (hb : isB xs) : (root xs).length = 32 := (rt_bd _ n xs h hb).1
theorem root_isB {xs : List Int} {n : Nat} (h : xs.length = 32 * n) (hb : isB xs) : isB (root xs) := (rt_bd _ n xs h hb).2
theorem lo_isB {xs : List Int} (h : isB xs) : isB (lo xs) := h.take _
theorem hi_isB {xs : List Int} (h : isB xs) : isB (hi xs) := h.drop _

/-- The proof of a leaf. -/
def pt : Nat → List Int → Nat → List Int
  | 0, _, _ => []
  | f + 1, xs, i => if xs.length ≤ 32 then [] else if i < hf (xs.length / 32) then pt f (lo xs) i ++ root (hi xs) else pt f (hi xs) (i - hf (xs.length / 32)) ++ root (lo xs)
def path (xs : List Int) (i : Nat) : List Int := pt (xs.length / 32) xs i

theorem pt_fuel : ∀ (m f g n i : Nat) (xs : List Int), n ≤ m → xs.length = 32 * n → n < 2 ^ 64 → n ≤ f → n ≤ g → pt f xs i = pt g xs i
  | m, 0, 0, n, i, xs, _, _, _, _, _ => rfl
  | m, 0, g + 1, n, i, xs, _, hx, _, hf0, _ => by
    have : xs.length ≤ 32 := by omega
    simp [pt, this]
  | m, f + 1, 0, n, i, xs, _, hx, _, _, hg0 => by
    have : xs.length ≤ 32 := by omega
    simp [pt, this]
  | 0, f + 1, g + 1, n, i, xs, hm, hx, _, _, _ => by
    have : xs.length ≤ 32 := by omega
    simp [pt, this]
  | m + 1, f + 1, g + 1, n, i, xs, hm, hx, hn, hf0, hg0 => by
    by_cases h1 : n ≤ 1
    · have : xs.length ≤ 32 := by omega
      simp [pt, this]
    · have h2 : 2 ≤ n := by omega
      have hb := hf_bd n h2 hn
      have e1 := fun j => pt_fuel m f g (hf n) j (lo xs) (by omega) (lo_length hx h2 hn) (by omega) (by omega) (by omega)
      have e2 := fun j => pt_fuel m f g (n - hf n) j (hi xs) (by omega) (hi_length hx h2 hn) (by omega) (by omega) (by omega)
      simp only [pt, e1, e2]
theorem path_one {xs : List Int} {i : Nat} (h : xs.length = 32) : path xs i = [] := by
  unfold path
  rw [h]
  have hle : xs.length ≤ 32 := by omega
  show pt 1 xs i = []
  simp only [pt, if_pos hle]
theorem path_lo {xs : List Int} {n i : Nat} (h : xs.length = 32 * n) (h2 : 2 ≤ n) (hn : n < 2 ^ 64) (hi' : i < hf n) : path xs i = path (lo xs) i ++ root (hi xs) := by
  have hb := hf_bd n h2 hn
  have e1 := pt_fuel n (n - 1) (hf n) (hf n) i (lo xs) (by omega) (lo_length h h2 hn) (by omega) (by omega) (by omega)
  have l1 : (lo xs).length / 32 = hf n := by rw [lo_length h h2 hn]; omega
  have e0 : xs.length / 32 = n := by omega
  have e : n = (n - 1) + 1 := by omega
  have n1 : ¬ xs.length ≤ 32 := by omega
  unfold path
  rw [l1, ← e1, e0, e]
  simp only [pt, if_neg n1, e0, if_pos hi']
  rfl
theorem path_hi {xs : List Int} {n i : Nat} (h : xs.length = 32 * n) (h2 : 2 ≤ n) (hn : n < 2 ^ 64) (hi' : hf n ≤ i) : path xs i = path (hi xs) (i - hf n) ++ root (lo xs) := by
  have hb := hf_bd n h2 hn
  have e1 := pt_fuel n (n - 1) (n - hf n) (n - hf n) (i - hf n) (hi xs) (by omega) (hi_length h h2 hn) (by omega) (by omega) (by omega)
  have l1 : (hi xs).length / 32 = n - hf n := by rw [hi_length h h2 hn]; omega
  have e0 : xs.length / 32 = n := by omega
  have e : n = (n - 1) + 1 := by omega
  have n1 : ¬ xs.length ≤ 32 := by omega
  have n2 : ¬ i < hf n := by omega
  unfold path
  rw [l1, ← e1, e0, e]
  simp only [pt, if_neg n1, e0, if_neg n2]
  rfl
/-- How many digests it has. -/
theorem path_bd : ∀ (m n i : Nat) (xs : List Int), n ≤ m → 0 < n → xs.length = 32 * n → n < 2 ^ 64 → isB xs → i < n → (∃ q, (path xs i).length = 32 * q ∧ q ≤ Lib.bitLen (n - 1)) ∧ isB (path xs i)
  | 0, n, i, xs, hm, h0, hx, hn, hb, hi' => by omega
  | m + 1, n, i, xs, hm, h0, hx, hn, hb, hi' => by
    by_cases h1 : n = 1
    · rw [path_one (by omega)]
      exact ⟨⟨0, rfl, by omega⟩, by intro x hx; simp at hx⟩
    · have h2 : 2 ≤ n := by omega
      have hbd := hf_bd n h2 hn
      by_cases hlt : i < hf n
      · rw [path_lo hx h2 hn hlt]
        obtain ⟨⟨q, hq, hl⟩, hB⟩ := path_bd m (hf n) i (lo xs) (by omega) (by omega) (lo_length hx h2 hn) (by omega) (lo_isB hb) hlt
        have := bl_lo n (hf n) h2 hn (Nat.le_refl _) (by omega)
        refine ⟨⟨q + 1, ?_, by omega⟩, hB.append (root_isB (hi_length hx h2 hn) (hi_isB hb))⟩
        rw [List.length_append, hq, root_length (hi_length hx h2 hn) (hi_isB hb)]
        omega
      · rw [path_hi hx h2 hn (by omega)]
        obtain ⟨⟨q, hq, hl⟩, hB⟩ := path_bd m (n - hf n) (i - hf n) (hi xs) (by omega) (by omega) (hi_length hx h2 hn) (by omega) (hi_isB hb) (by omega)
        have := bl_lo n (n - hf n) h2 hn (by omega) (by omega)
        refine ⟨⟨q + 1, ?_, by omega⟩, hB.append (root_isB (lo_length hx h2 hn) (lo_isB hb))⟩
        rw [List.length_append, hq, root_length (lo_length hx h2 hn) (lo_isB hb)]
        omega

/-- The proof of a beginning. -/
def sp : Nat → List Int → Nat → Bool → List Int
  | 0, _, _, _ => []
  | f + 1, xs, m, wh => if m = xs.length / 32 then (if wh = true then [] else root xs) else if m ≤ hf (xs.length / 32) then sp f (lo xs) m wh ++ root (hi xs) else sp f (hi xs) (m - hf (xs.length / 32)) false ++ root (lo xs)
def steps (xs : List Int) (m : Nat) (wh : Bool) : List Int := sp (xs.length / 32) xs m wh

theorem sp_fuel : ∀ (k f g n m : Nat) (wh : Bool) (xs : List Int), n ≤ k → 0 < m → m ≤ n → xs.length = 32 * n → n < 2 ^ 64 → n ≤ f → n ≤ g → sp f xs m wh = sp g xs m wh
  | k, 0, g, n, m, wh, xs, _, _, _, _, _, _, _ => by omega
  | k, f + 1, 0, n, m, wh, xs, _, _, _, _, _, _, _ => by omega
  | 0, f + 1, g + 1, n, m, wh, xs, _, _, _, _, _, _, _ => by omega
  | k + 1, f + 1, g + 1, n, m, wh, xs, hk, h0, hm, hx, hn, hf0, hg0 => by
    have e0 : xs.length / 32 = n := by omega
    by_cases h1 : m = n
    · simp only [sp, e0, if_pos h1]
    · have h2 : 2 ≤ n := by omega
      have hb := hf_bd n h2 hn
      by_cases hlt : m ≤ hf n
      · have e1 := sp_fuel k f g (hf n) m wh (lo xs) (by omega) h0 hlt (lo_length hx h2 hn) (by omega) (by omega) (by omega)
        simp only [sp, e0, if_neg h1, if_pos hlt, e1]
      · have e2 := sp_fuel k f g (n - hf n) (m - hf n) false (hi xs) (by omega) (by omega) (by omega) (hi_length hx h2 hn) (by omega) (by omega) (by omega)
        simp only [sp, e0, if_neg h1, if_neg hlt, e2]
theorem steps_all {xs : List Int} {n : Nat} {wh : Bool} (h : xs.length = 32 * n) (h0 : 0 < n) : steps xs n wh = if wh = true then [] else root xs := by
  have e0 : xs.length / 32 = n := by omega
  have e : n = (n - 1) + 1 := by omega
  unfold steps
  rw [e0, e]
  simp only [sp, e0, ← e, if_true]
theorem steps_lo {xs : List Int} {n m : Nat} {wh : Bool} (h : xs.length = 32 * n) (h0 : 0 < m) (hmn : m < n) (hn : n < 2 ^ 64) (hm : m ≤ hf n) : steps xs m wh = steps (lo xs) m wh ++ root (hi xs) := by
  have h2 : 2 ≤ n := by omega
  have hb := hf_bd n h2 hn
  have e1 := sp_fuel n (n - 1) (hf n) (hf n) m wh (lo xs) (by omega) h0 hm (lo_length h h2 hn) (by omega) (by omega) (by omega)
  have l1 : (lo xs).length / 32 = hf n := by rw [lo_length h h2 hn]; omega
  have e0 : xs.length / 32 = n := by omega
  have e : n = (n - 1) + 1 := by omega
  have n1 : ¬ m = n := by omega
  unfold steps
  rw [l1, ← e1, e0, e]
  simp only [sp, e0, if_neg n1, if_pos hm]
  rfl
theorem steps_hi {xs : List Int} {n m : Nat} {wh : Bool} (h : xs.length = 32 * n) (hmn : m < n) (hn : n < 2 ^ 64) (hm : hf n < m) : steps xs m wh = steps (hi xs) (m - hf n) false ++ root (lo xs) := by
  have h2 : 2 ≤ n := by omega
  have hb := hf_bd n h2 hn
  have e1 := sp_fuel n (n - 1) (n - hf n) (n - hf n) (m - hf n) false (hi xs) (by omega) (by omega) (by omega) (hi_length h h2 hn) (by omega) (by omega) (by omega)
  have l1 : (hi xs).length / 32 = n - hf n := by rw [hi_length h h2 hn]; omega
  have e0 : xs.length / 32 = n := by omega
  have e : n = (n - 1) + 1 := by omega
  have n1 : ¬ m = n := by omega
  have n2 : ¬ m ≤ hf n := by omega
  unfold steps
  rw [l1, ← e1, e0, e]
  simp only [sp, e0, if_neg n1, if_neg n2]
  rfl
theorem steps_bd : ∀ (k n m : Nat) (wh : Bool) (xs : List Int), n ≤ k → 0 < m → m ≤ n → xs.length = 32 * n → n < 2 ^ 64 → isB xs → (∃ q, (steps xs m wh).length = 32 * q ∧ q ≤ Lib.bitLen (n - 1) + 1) ∧ isB (steps xs m wh)
  | 0, n, m, wh, xs, hk, h0, hm, hx, hn, hb => by omega
  | k + 1, n, m, wh, xs, hk, h0, hm, hx, hn, hb => by
    by_cases h1 : m = n
    · subst h1
      rw [steps_all hx h0]
      split
      · exact ⟨⟨0, rfl, by omega⟩, by intro x hx; simp at hx⟩
      · exact ⟨⟨1, by rw [root_length hx hb], by omega⟩, root_isB hx hb⟩
    · have h2 : 2 ≤ n := by omega
      have hbd := hf_bd n h2 hn
      by_cases hlt : m ≤ hf n
      · rw [steps_lo hx h0 (by omega) hn hlt]
        obtain ⟨⟨q, hq, hl⟩, hB⟩ := steps_bd k (hf n) m wh (lo xs) (by omega) h0 hlt (lo_length hx h2 hn) (by omega) (lo_isB hb)
        have := bl_lo n (hf n) h2 hn (Nat.le_refl _) (by omega)
        refine ⟨⟨q + 1, ?_, by omega⟩, hB.append (root_isB (hi_length hx h2 hn) (hi_isB hb))⟩
        rw [List.length_append, hq, root_length (hi_length hx h2 hn) (hi_isB hb)]
        omega
      · rw [steps_hi hx (by omega) hn (by omega)]
        obtain ⟨⟨q, hq, hl⟩, hB⟩ := steps_bd k (n - hf n) (m - hf n) false (hi xs) (by omega) (by omega) (by omega) (hi_length hx h2 hn) (by omega) (hi_isB hb)
        have := bl_lo n (n - hf n) h2 hn (by omega) (by omega)
        refine ⟨⟨q + 1, ?_, by omega⟩, hB.append (root_isB (lo_length hx h2 hn) (lo_isB hb))⟩
        rw [List.length_append, hq, root_length (lo_length hx h2 hn) (lo_isB hb)]
        omega

end Go.Proofs.YthgfbcndoedacaaDoor

/-
  The program's and the document's digests of a leaf, of two, of nothing.
-/
namespace Go.Proofs.YthgfbcndoedacaaDoor
open Go.RowKit
set_option linter.unusedVariables false

theorem Sl.none0 (w : World) : Sl w none 0 0 [] := ⟨rfl, Nat.le_refl _, by omega, by omega, by intro x hx; simp at hx, fun _ => ⟨rfl, rfl⟩, fun h => absurd h (by omega)⟩
theorem own_one (w : World) (x : Int) : Own (w.alloc (.cells #[.int .u8 x] 5)) w.heap.size (.slice (some ⟨w.heap.size, 0, none⟩) 1 1) [x] :=
  Own.of_blk (xs := [x]) (Blk.made w 5 (u8s [x])) (Nat.le_refl _) (by simp)
theorem slice_Dh (g : Nat) (v : World) : (Instr.sliceAt 34 (.pointer (some ⟨g, 0, none⟩)) none none none).run Tryd.prog v = .ok (.slice (some ⟨g, 0, none⟩) 32 32) v := by kernel_rfl



set_option maxHeartbeats 1000000 in
theorem empty_any (w : World) (hk : KT w) :
    Calls Tryd.prog 42 #[] w fun e w' => e = .returned (.agg (u8s emp).toArray) ∧ Below w.heap.size w w' := by
  have HK := hide hk
  clear hk
  have HML := hide (show (u8s emp).length = 32 by rw [u8s_length, emp_length])
  go_enter Tryd.func42, Tryd.ntmps42
  go_wp2_with (refine step_alloc zD rfl ?_)
  intro w1 g1 hg1 hle1 hb1
  have G1 := hide hg1
  have HB1 := hide hb1
  clear hg1 hb1
  go_wp2_with fail
  refine (sum_any none 0 0 [] _ (Sl.none0 _) (HK.out.below HB1.out HK.out.lt)).mono ?_
  rintro e w3 ⟨rfl, hb3⟩
  have EL : Hid (dg bL 0 [] = emp) := hide rfl
  rw [EL.out]
  have G3 := hide (G1.out.below hb3 G1.out.lt)
  go_wp2_with (refine step_storeA wD rfl rfl rfl G3.out HML.out (One.u8 _) rfl ?_; intro w4 hg4 hbut4)
  refine bodyPost_ret (results_wide rfl wD _ _ rfl hg4 HML.out) rfl ⟨rfl, ?_⟩
  exact (HB1.out.trans (hb3.mono HB1.out.size)).trans (hbut4.below hle1)
set_option maxHeartbeats 1000000 in
theorem emptyR_any (w : World) :
    Calls Tryd.prog 52 #[] w fun e w' => e = .returned (.agg (u8s emp).toArray) ∧ Below w.heap.size w w' := by
  have HML := hide (show (u8s emp).length = 32 by rw [u8s_length, emp_length])
  go_enter Tryd.func52, Tryd.ntmps52
  go_wp2_with (refine step_alloc zD rfl ?_)
  intro w1 g1 hg1 hle1 hb1
  have G1 := hide hg1
  have HB1 := hide hb1
  clear hg1 hb1
  go_wp2_with fail
  refine (sumR_any none 0 0 [] _ (Sl.none0 _) (by omega)).mono ?_
  rintro e w3 ⟨rfl, hb3⟩
  have EL : Hid (dg bL 0 [] = emp) := hide rfl
  rw [EL.out]
  have G3 := hide (G1.out.below hb3 G1.out.lt)
  go_wp2_with (refine step_storeA wD rfl rfl rfl G3.out HML.out (One.u8 _) rfl ?_; intro w4 hg4 hbut4)
  refine bodyPost_ret (results_wide rfl wD _ _ rfl hg4 HML.out) rfl ⟨rfl, ?_⟩
  exact (HB1.out.trans (hb3.mono HB1.out.size)).trans (hbut4.below hle1)

end Go.Proofs.YthgfbcndoedacaaDoor

/-
  The program's and the document's digests of two.
-/
namespace Go.Proofs.YthgfbcndoedacaaDoor
open Go.RowKit
set_option linter.unusedVariables false

theorem z65 : Zeroed 114 (u8s (zer 65)) := fun _ _ _ _ _ _ _ => by kernel_rfl
theorem slice65_1 (g : Nat) (v : World) : (Instr.sliceAt 114 (.pointer (some ⟨g, 0, none⟩)) (some (.int .i64 1)) none none).run Tryd.prog v = .ok (.slice (some ⟨g, 1, none⟩) 64 64) v := by kernel_rfl
theorem slice65_33 (g : Nat) (v : World) : (Instr.sliceAt 114 (.pointer (some ⟨g, 0, none⟩)) (some (.int .i64 33)) none none).run Tryd.prog v = .ok (.slice (some ⟨g, 33, none⟩) 32 32) v := by kernel_rfl
theorem slice65 (g : Nat) (v : World) : (Instr.sliceAt 114 (.pointer (some ⟨g, 0, none⟩)) none none none).run Tryd.prog v = .ok (.slice (some ⟨g, 0, none⟩) 65 65) v := by kernel_rfl
theorem node_1 (l : List Int) (hl : l.length = 32) : spl ((u8s (zer 65)).set 0 (.int .u8 1)) (u8s (l.take 32)) 1 = u8s (1 :: (l ++ zer 32)) := by
  rw [u8s_set, List.take_of_length_le (by omega), spl_u8]
  congr 1
  simp [splB, hl, zer, List.replicate]
theorem node_2 (l r : List Int) (hl : l.length = 32) (hr : r.length = 32) : spl (u8s (1 :: (l ++ zer 32))) (u8s (r.take 32)) 33 = u8s (1 :: (l ++ r)) := by
  rw [List.take_of_length_le (by omega), spl_u8]
  congr 1
  simp [splB, hl, hr, zer]
theorem two_isB {l r : List Int} (hl : isB l) (hr : isB r) : isB (1 :: (l ++ r)) := by
  intro x hx
  rcases List.mem_cons.1 hx with rfl | hx
  · omega
  · exact (hl.append hr) x hx

set_option maxRecDepth 100000 in
set_option maxHeartbeats 2000000 in
theorem node_any (l r : List Int) (w : World) (hl : l.length = 32) (hlb : isB l) (hr : r.length = 32) (hrb : isB r) (hk : KT w) :
    Calls Tryd.prog 44 #[.agg (u8s l).toArray, .agg (u8s r).toArray] w fun e w' => e = .returned (.agg (u8s (nd l r)).toArray) ∧ Below w.heap.size w w' := by
  have HL := hide hl
  have HR := hide hr
  have HLB := hide hlb
  have HRB := hide hrb
  have HK := hide hk
  have HML := hide (show (u8s (nd l r)).length = 32 by rw [u8s_length, nd_length])
  have H65 := hide (show (1 :: (l ++ r)).length = 65 by simp [hl, hr])
  have E1 := hide (node_1 l hl)
  have E2 := hide (node_2 l r hl hr)
  clear hl hr hlb hrb hk
  go_enter Tryd.func44, Tryd.ntmps44
  go_wp2_with (refine step_box rfl rfl ?_)
  intro w1 g2 hr1 hl1 hb1
  have G2 := hide hr1
  clear hr1
  go_wp2_with (refine step_box rfl rfl ?_)
  intro w2 g3 hr2 hl2 hb2
  have G3 := hide hr2
  have G22 := hide (G2.out.below hb2 G2.out.lt)
  clear hr2
  go_wp2_with (refine step_alloc zD rfl ?_)
  intro w3 g4 hr3 hl3 hb3
  have G4 := hide hr3
  have G33 := hide (G3.out.below hb3 G3.out.lt)
  have G23 := hide (G22.out.below hb3 G22.out.lt)
  clear hr3
  go_wp2_with (refine step_alloc z65 rfl ?_)
  intro w4 g5 hr4 hl4 hb4
  have G44 := hide (G4.out.below hb4 G4.out.lt)
  have G34 := hide (G33.out.below hb4 G33.out.lt)
  have G24 := hide (G23.out.below hb4 G23.out.lt)
  have G5 := hide hr4
  have B4 := hide (((hb1.trans (hb2.mono hb1.size)).trans (hb3.mono (Nat.le_trans hb1.size hb2.size))).trans (hb4.mono (Nat.le_trans (Nat.le_trans hb1.size hb2.size) hb3.size)))
  have n25 : g2 ≠ g5 := by have := G23.out.lt; omega
  have n35 : g3 ≠ g5 := by have := G33.out.lt; omega
  have n45 : g4 ≠ g5 := by have := G4.out.lt; omega
  have hw5 : w.heap.size ≤ g5 := Nat.le_trans (Nat.le_trans (Nat.le_trans hb1.size hb2.size) hb3.size) hl4
  have hw4 : w.heap.size ≤ g4 := Nat.le_trans (Nat.le_trans hb1.size hb2.size) hl3
  have hcell : w4.cell? ⟨g5, 0, none⟩ = some (.int .u8 0) := by rw [G5.out.cell]; rfl
  have hfree := G5.out.free 0
  have hs1 := slice65_1 g5
  have hs2 := slice65_33 g5
  have hs3 := slice65 g5
  have hd2 := slice_Dh g2
  have hd3 := slice_Dh g3
  clear hr4 hb1 hb2 hb3 hb4 G2 G22 G23 G3 G33 G4
  go_wp2_with fail
  have hbut5 := But.setCell w4 g5 0 (.int .u8 1)
  have hg5 := G5.out.set 0 (.int .u8 1)
  revert hbut5 hg5
  generalize w4.setCell ⟨g5, 0, none⟩ (.int .u8 1) = w5
  intro hbut5 hg5
  have B5 := hide (B4.out.trans (hbut5.below hw5))
  have G55 := hide hg5
  have G45 := hide (G44.out.but hbut5 n45)
  have G35 := hide (G34.out.but hbut5 n35)
  have G25 := hide (G24.out.but hbut5 n25)
  have SL := hide ((G25.out.sl0 HLB.out (by rw [HL.out]; omega)).below ((Below.refl _ _).drew))
  rw [HL.out] at SL
  clear hbut5 hg5 hcell hfree G5 G44 G34 G24 B4
  go_region_law (refine rstep_copy rfl rfl rfl rfl SL.out g5 1 32 (by omega) (by exact G55.out) (fun _ => rfl) (by simp [u8s_length, zer_length]) ?_; intro w6 hg6 hbut6)
  rw [E1.out] at hg6
  have B6 := hide ((B5.out.drew).trans (hbut6.below hw5))
  have G56 := hide hg6
  have G46 := hide ((G45.out.below ((Below.refl _ _).drew) G45.out.lt).but hbut6 n45)
  have G36 := hide ((G35.out.below ((Below.refl _ _).drew) G35.out.lt).but hbut6 n35)
  have SR := hide ((G36.out.sl0 HRB.out (by rw [HR.out]; omega)).below ((Below.refl _ _).drew))
  rw [HR.out] at SR
  have H66 := hide (show (u8s (1 :: (l ++ zer 32))).length = 65 by rw [u8s_length]; simp [HL.out, zer])
  clear hg6 hbut6 G55 G45 G35 G25 SL B5
  go_wp2_with fail
  go_region_law (refine rstep_copy rfl rfl rfl rfl SR.out g5 33 32 (by omega) (by exact G56.out) (fun _ => rfl) (by rw [H66.out]; omega) ?_; intro w7 hg7 hbut7)
  rw [E2.out] at hg7
  have B7 := hide ((B6.out.drew).trans (hbut7.below hw5))
  have G47 := hide ((G46.out.below ((Below.refl _ _).drew) G46.out.lt).but hbut7 n45)
  have S7 := hide (hg7.sl0 (two_isB HLB.out HRB.out) (by rw [H65.out]; omega))
  rw [H65.out] at S7
  clear hg7 hbut7 G56 G46 G36 SR B6
  go_wp2_with fail
  refine (sum_any _ _ _ (1 :: (l ++ r)) _ S7.out (HK.out.below B7.out HK.out.lt)).mono ?_
  rintro e w8 ⟨rfl, hb8⟩
  have EL : Hid (dg bL 0 (1 :: (l ++ r)) = nd l r) := hide rfl
  rw [EL.out]
  have G48 := hide (G47.out.below hb8 G47.out.lt)
  go_wp2_with (refine step_storeA wD rfl rfl rfl G48.out HML.out (One.u8 _) rfl ?_; intro w9 hg9 hbut9)
  refine bodyPost_ret (results_wide rfl wD _ _ rfl hg9 HML.out) rfl ⟨rfl, ?_⟩
  exact (B7.out.trans (hb8.mono B7.out.size)).trans (hbut9.below hw4)

section
variable {dst : Option Tmp} {ty : TypeId} {pos : String} {aft : Array Edge} {gd : Option (Nat × Bool)} {a : Act} {w : World} {K : Act → World → Prop} {Q : Exit → Act → World → Prop}
theorem build_oneN (q : Int) (w : World) : (Instr.buildSlice 45 1 #[(0, .int .u8 q)]).run Tryd.prog w = .ok (.slice (some ⟨w.heap.size, 0, none⟩) 1 1) (w.alloc (.cells #[.int .u8 q] 5)) := by kernel_rfl
set_option maxRecDepth 100000 in
theorem wp_oneO {x : Operand} {q : Int} (hx : a.eval x = .int .u8 q) (h : ∀ w1 g, Own w1 w.heap.size (.slice (some ⟨g, 0, none⟩) 1 1) [q] → Below w.heap.size w w1 → K (a.put dst (.slice (some ⟨g, 0, none⟩) 1 1)) w1) :
    Oper.wp Tryd.prog ⟨dst, .buildSlice 45 1 #[(0, x)], ty, pos, aft, gd⟩ a w K Q := by
  refine wp_runV (.slice (some ⟨w.heap.size, 0, none⟩) 1 1) (w.alloc (.cells #[.int .u8 q] 5)) ?_ (h _ _ (own_one w q) ((Below.refl _ _).alloc (Nat.le_refl _) _))
  unfold execOp
  simp only [List.map_toArray, List.map_cons, List.map_nil, hx]
  simp only [Sem.run_bind, build_oneN, Result.andThen_ok, Sem.run_pure]
end
set_option maxRecDepth 100000 in
set_option maxHeartbeats 2000000 in
theorem nodeR_any (l r : List Int) (w : World) (hl : l.length = 32) (hlb : isB l) (hr : r.length = 32) (hrb : isB r) :
    Calls Tryd.prog 33 #[.agg (u8s l).toArray, .agg (u8s r).toArray] w fun e w' => e = .returned (.agg (u8s (nd l r)).toArray) ∧ Below w.heap.size w w' := by
  have HL := hide hl
  have HR := hide hr
  have HLB := hide hlb
  have HRB := hide hrb
  have HML := hide (show (u8s (nd l r)).length = 32 by rw [u8s_length, nd_length])
  have H33 := hide (show ([1] ++ l).length = 33 by simp [hl])
  have H65 := hide (show (([1] ++ l) ++ r).length = 65 by simp [hl, hr])
  clear hl hr hlb hrb
  go_enter Tryd.func33, Tryd.ntmps33
  go_wp2_with (refine step_box rfl rfl ?_)
  intro w1 g2 hr1 hl1 hb1
  have G2 := hide hr1
  clear hr1
  go_wp2_with (refine step_box rfl rfl ?_)
  intro w2 g3 hr2 hl2 hb2
  have G3 := hide hr2
  have G22 := hide (G2.out.below hb2 G2.out.lt)
  clear hr2
  go_wp2_with (refine step_alloc zD rfl ?_)
  intro w3 g4 hr3 hl3 hb3
  have G4 := hide hr3
  have SR := hide ((G3.out.below hb3 G3.out.lt).sl0 HRB.out (by rw [HR.out]; omega))
  have SL := hide ((G22.out.below hb3 G22.out.lt).sl0 HLB.out (by rw [HL.out]; omega))
  rw [HL.out] at SL
  rw [HR.out] at SR
  have B3 := hide ((hb1.trans (hb2.mono hb1.size)).trans (hb3.mono (Nat.le_trans hb1.size hb2.size)))
  have hw4 : w.heap.size ≤ g4 := Nat.le_trans (Nat.le_trans hb1.size hb2.size) hl3
  clear hr3 hb1 hb2 hb3 G2 G22 G3 hl1 hl2 hl3
  go_wp2_with fail
  refine wp_region_noPanic ?_
  have B0 := hide ((Below.refl w3.heap.size w3).drew)
  refine wp_region_held_drew (S := fun v : World => True) (by kernel_rfl) trivial (fun hHeld => ?_)
  refine takeH 1 6 (.slice (some ⟨g2, 0, none⟩) 32 32) hHeld rfl rfl (by kernel_rfl) (by kernel_rfl) (by kernel_rfl) (fun _ _ _ h => h) (Or.inl ⟨by rfl, fun w _ => run_op rfl (slice_Dh g2 w)⟩) ?_
  simp only [Act.put, List.setIfInBounds_toArray, List.set_cons_zero, List.set_cons_succ]
  refine takeH 3 8 (.slice (some ⟨g3, 0, none⟩) 32 32) hHeld rfl rfl (by kernel_rfl) (by kernel_rfl) (by kernel_rfl) (fun _ _ _ h => h) (Or.inl ⟨by rfl, fun w _ => run_op rfl (slice_Dh g3 w)⟩) ?_
  simp only [Act.put, List.setIfInBounds_toArray, List.set_cons_zero, List.set_cons_succ]
  refine wpAnyH_ready (rs := [0]) (by kernel_rfl) (by simp) (AllReadyH.cons rfl (fun K hK => ?_) AllReadyH.nil)
  rw [if_pos (by rfl)]
  refine wp_oneO rfl ?_
  intro v1 gq ho1 hbq
  have B1 := hide (B0.out.trans (hbq.mono B0.out.size))
  refine hK.out _ _ trivial (fun hHeld => ?_)
  clear hK K
  simp only [Act.put]
  refine wpAnyH_ready (rs := [2]) (by kernel_rfl) (by simp) (AllReadyH.cons rfl (fun K hK => ?_) AllReadyH.nil)
  rw [if_pos (by rfl)]
  refine wp_appendB rfl rfl rfl ho1 (SL.out.below B1.out) (by simp) hbq.size ?_
  intro u2 v2 ho2 hg2 hn2
  have B2 := hide (B1.out.trans (Below.of_grown hg2 (Nat.le_trans B0.out.size hbq.size) (fun k hk => Nat.le_trans B0.out.size (ho1.lt k hk))))
  have hn2' : u2 ≠ .slice none 0 0 := fun e => by have e2 := (hn2 e).1; cases e2
  refine hK.out _ _ trivial (fun hHeld => ?_)
  clear hK K
  simp only [Act.put]
  refine wpAnyH_ready (rs := [4]) (by kernel_rfl) (by simp) (AllReadyH.cons rfl (fun K hK => ?_) AllReadyH.nil)
  rw [if_pos (by rfl)]
  refine wp_appendB rfl rfl rfl ho2 (SR.out.below B2.out) (by rw [H33.out]; omega) (Nat.le_trans hbq.size (by have := hg2.size; omega)) ?_
  intro u3 v3 ho3 hg3 hn3
  have B3a := hide (B2.out.trans (Below.of_grown hg3 B2.out.size (fun k hk => Nat.le_trans B0.out.size (ho2.lt k hk))))
  have hn3' : u3 ≠ .slice none 0 0 := fun e => hn2' (hn3 e).1
  obtain ⟨gi, ci, ei, _, hsi⟩ := ho3.sl (((show isB [1] by intro y hy; simp at hy; omega).append HLB.out).append HRB.out) (by rw [H65.out]; omega) hn3'
  subst ei
  rw [H65.out] at hsi ⊢
  have SI := hide hsi
  clear ho1 hbq ho2 hg2 hn2 hn2' ho3 hg3 hn3 hn3' hsi
  refine hK.out _ _ trivial (fun hHeld => ?_)
  clear hK K
  simp only [Act.put]
  refine wpAnyH_ready (rs := [5]) (by kernel_rfl) (by simp) (AllReadyH.cons rfl (fun K hK => ?_) AllReadyH.nil)
  rw [if_pos (by rfl)]
  go_simp
  refine (sumR_any _ _ _ (([1] ++ l) ++ r) _ SI.out (by omega)).mono ?_
  rintro e v4 ⟨rfl, hb4⟩
  have EL : Hid (dg bL 0 (([1] ++ l) ++ r) = nd l r) := hide (by unfold nd; simp)
  rw [EL.out]
  have B4 := hide (B3a.out.trans (hb4.mono B3a.out.size))
  refine hK.out _ _ (trivial) (fun hHeld => ?_)
  clear hK K
  refine wpAnyH_ready (rs := [6]) (by kernel_rfl) (by simp) (AllReadyH.cons rfl (fun K hK => ?_) AllReadyH.nil)
  rw [if_pos (by rfl)]
  refine wp_storeW wD rfl rfl rfl (G4.out.below B4.out G4.out.lt) HML.out (One.u8 _) (by simp [u8s_length, zer_length]) ?_
  intro v5 hgs hbuts
  refine hK.out _ _ trivial (fun hHeld => ?_)
  clear hK K
  simp only [Act.put]
  refine wpAnyH_done (by kernel_rfl) ?_ _
  refine NoPanic.normal ?_
  clear hHeld
  have EZ : Hid (spl (u8s (zer 32)) (u8s (nd l r)) 0 = u8s (nd l r)) := hide (by
    unfold spl
    rw [List.drop_of_length_le (by rw [HML.out, u8s_length, zer_length]; omega)]
    simp)
  rw [EZ.out] at hgs
  go_wp2
  refine bodyPost_ret (results_wide rfl wD _ _ rfl hgs HML.out) rfl ⟨rfl, ?_⟩
  exact (B3.out.trans (B4.out.mono B3.out.size)).trans (hbuts.below hw4)

end Go.Proofs.YthgfbcndoedacaaDoor

/-
  bits.Len, and the program's Split.
-/
namespace Go.Proofs.YthgfbcndoedacaaDoor
open Go.RowKit
set_option linter.unusedVariables false

theorem tab_at (i : Nat) (h : i < Lib.len8tab.size) : (Lib.len8tab[i]'h).toNat = Lib.bitLen i := by
  have h2 : i < 256 := by rw [← Lib.len8tab_size]; exact h
  have e := Lib.len8_eq ⟨i, h2⟩
  have e2 : Lib.len8tab[i]? = some (Lib.len8tab[i]'h) := by simp [h]
  simp only [Lib.len8, Int.toNat_natCast, e2, Option.getD_some] at e
  omega

theorem wrap_sum (a b d : Nat) (h : b = d + a) (hb : b ≤ 64) : wrap64 ((d : Int) + wrap64 (a : Int)) = (b : Int) := by
  unfold wrap64
  omega
theorem wrap_self (b : Nat) (hb : b ≤ 64) : wrap64 (wrap64 (b : Int)) = (b : Int) := by
  unfold wrap64
  omega
theorem len_end (d : Nat) (x y s : Int) (h0 : 0 ≤ x) (h1 : x ≤ 18446744073709551615) (hy : y.toNat = x.toNat / 2 ^ d) (hd : 2 ^ d ≤ x.toNat) (hs : s = (d : Int)) : wrap64 (s + wrap64 (Lib.bitLen y.toNat : Int)) = (Lib.bitLen x.toNat : Int) := by
  have hx : x.toNat < 2 ^ 64 := by omega
  rw [hy, hs]
  exact wrap_sum _ _ d (Lib.bitLen_shift d x.toNat hd hx) (Lib.bitLen_le x.toNat 64 (Nat.le_refl _) hx)
theorem len_end0 (x : Int) (h0 : 0 ≤ x) (h1 : x < 256) : wrap64 (wrap64 (Lib.bitLen x.toNat : Int)) = (Lib.bitLen x.toNat : Int) := by
  have hx : x.toNat < 2 ^ 64 := by omega
  exact wrap_self _ (Lib.bitLen_le x.toNat 64 (Nat.le_refl _) hx)
set_option maxHeartbeats 4000000 in
set_option maxRecDepth 100000 in
theorem len64_any (x : Int) (w : World) (h0 : 0 ≤ x) (h1 : x ≤ 18446744073709551615) :
    Calls Tryd.prog 69 #[.int .u64 x] w fun e w' => e = .returned (.int .i64 (Lib.bitLen x.toNat)) ∧ w' = w := by
  have hsz := Lib.len8tab_size
  go_enter Tryd.func69, Tryd.ntmps69
  go_wp2
  all_goals (go_ret; refine ⟨congrArg Ending.returned (congrArg (Value.int IntKind.i64) ?_), rfl⟩)
  all_goals rw [tab_at]
  · exact len_end 56 x _ _ h0 h1 (by show _ = x.toNat / 72057594037927936; omega) (by show 72057594037927936 ≤ x.toNat; omega) rfl
  · exact len_end 48 x _ _ h0 h1 (by show _ = x.toNat / 281474976710656; omega) (by show 281474976710656 ≤ x.toNat; omega) rfl
  · exact len_end 40 x _ _ h0 h1 (by show _ = x.toNat / 1099511627776; omega) (by show 1099511627776 ≤ x.toNat; omega) rfl
  · exact len_end 32 x _ _ h0 h1 (by show _ = x.toNat / 4294967296; omega) (by show 4294967296 ≤ x.toNat; omega) rfl
  · exact len_end 24 x _ _ h0 h1 (by show _ = x.toNat / 16777216; omega) (by show 16777216 ≤ x.toNat; omega) rfl
  · exact len_end 16 x _ _ h0 h1 (by show _ = x.toNat / 65536; omega) (by show 65536 ≤ x.toNat; omega) rfl
  · exact len_end 8 x _ _ h0 h1 (by show _ = x.toNat / 256; omega) (by show 256 ≤ x.toNat; omega) rfl
  · exact len_end0 x h0 (by omega)

theorem len_any (x : Int) (w : World) (h0 : 0 ≤ x) (h1 : x ≤ 18446744073709551615) :
    Calls Tryd.prog 57 #[.int .u64 x] w fun e w' => e = .returned (.int .i64 (Lib.bitLen x.toNat)) ∧ w' = w := by
  go_enter Tryd.func57, Tryd.ntmps57
  go_wp2_with (go_at_call 69; refine (len64_any x _ h0 h1).mono ?_; rintro e w' ⟨rfl, rfl⟩)
  go_ret
  exact ⟨rfl, rfl⟩

theorem split_low (n : Int) (w : World) (h : n < 2) : Calls Tryd.prog 48 #[.int .i64 n] w fun e w' => e = .returned (.tuple #[.int .i64 0, .int .i64 40]) ∧ w' = w := by
  go_enter Tryd.func48, Tryd.ntmps48
  go_wp2
  go_ret2
  exact ⟨rfl, rfl⟩
theorem pow_wrap (b h : Nat) (hh : h = 2 ^ (b - 1)) (hb : h ≤ 9223372036854775807) : wrap64 (2 ^ (b - 1)) = (h : Int) := by
  have e : ((2 : Int) ^ (b - 1)) = (h : Int) := by rw [hh]; simp [Int.natCast_pow]
  rw [e]
  unfold wrap64
  omega
theorem split_any (n : Nat) (w : World) (h2 : 2 ≤ n) (hn : n ≤ 9223372036854775807) : Calls Tryd.prog 48 #[.int .i64 n] w fun e w' => e = .returned (.tuple #[.int .i64 (hf n), .int .i64 0]) ∧ w' = w := by
  have hb := bl_pos n h2 (by omega)
  have hbd := hf_bd n h2 (by omega)
  have e1 : ((n : Int) - 1).toNat = n - 1 := by omega
  have HW := hide (pow_wrap (Lib.bitLen (n - 1)) (hf n) rfl (by omega))
  go_enter Tryd.func48, Tryd.ntmps48
  go_wp2_with (go_at_call 57; refine (len_any ((n : Int) - 1) _ (by omega) (by omega)).mono ?_; rintro e w' ⟨rfl, rfl⟩)
  go_ret2
  refine ⟨?_, rfl⟩
  rw [HW.out]
  rfl

end Go.Proofs.YthgfbcndoedacaaDoor

/-
  Slices of digests, as bytes one behind the other; the document's Half, Split; a digest of a slice loaded; parts of a slice.
-/
namespace Go.Proofs.YthgfbcndoedacaaDoor
open Go.RowKit
set_option linter.unusedVariables false

theorem undDs : Tryd.prog.underlying 27 = some (.slice (Tryd.prog.elem 27)) := by kernel_rfl
theorem elemDs : Tryd.prog.elem 27 = 34 := by kernel_rfl
theorem sizeDs (w : World) : (sizeOf 34).run Tryd.prog w = .ok 32 w := by kernel_rfl
theorem undDl : Tryd.prog.underlying 27 = some (.slice 34) := by kernel_rfl
theorem infoD : (Tryd.prog.info? 34).map (fun i => (i.zero, i.size, i.bytes)) = some (some (.agg (u8s (zer 32)).toArray), 32, 32) := by kernel_rfl

/-- A slice of digests in memory: their bytes are xs. -/
structure Ds (w : World) (a : Option Addr) (len cap : Nat) (xs : List Int) : Prop where
  hcap : len ≤ cap
  hmax : cap ≤ 9223372036854775807
  hnil : a = none → cap = 0
  sl : Sl w a (32 * len) (32 * len) xs
theorem Ds.hlen {w : World} {a : Option Addr} {len cap : Nat} {xs : List Int} (h : Ds w a len cap xs) : xs.length = 32 * len := h.sl.hlen
theorem Ds.hbyte {w : World} {a : Option Addr} {len cap : Nat} {xs : List Int} (h : Ds w a len cap xs) : isB xs := h.sl.hbyte
theorem Ds.hreach {w : World} {a : Option Addr} {len cap : Nat} {xs : List Int} (h : Ds w a len cap xs) : len ≤ 4398046511104 := by have := h.sl.hreach; omega
theorem Ds.below {w w' : World} {a : Option Addr} {len cap : Nat} {xs : List Int} (h : Ds w a len cap xs) (hb : Below w.heap.size w w') : Ds w' a len cap xs := ⟨h.hcap, h.hmax, h.hnil, h.sl.below hb⟩
theorem Ds.place {w : World} {a : Option Addr} {len cap : Nat} {xs : List Int} (h : Ds w a len cap xs) (h0 : 0 < len) : ∃ b o, a = some ⟨b, o, none⟩ := by
  obtain ⟨b, o, e, _⟩ := h.sl.hcell (by omega)
  exact ⟨b, o, e⟩
theorem Ds.take {w : World} {a : Option Addr} {len cap : Nat} {xs : List Int} (h : Ds w a len cap xs) (k : Nat) (hk : k ≤ len) : Ds w a k cap (xs.take (32 * k)) := by
  have hc := h.hcap
  have ht := h.sl.take (32 * k) (by omega)
  have hr := ht.hreach
  refine ⟨by omega, h.hmax, h.hnil, ht.hlen, by omega, by omega, ht.hreach, ht.hbyte, fun e => ?_, ht.hcell⟩
  have := h.sl.hnil e
  omega
theorem Ds.drop {w : World} {b o len cap : Nat} {xs : List Int} (h : Ds w (some ⟨b, o, none⟩) len cap xs) (k : Nat) (hk : k ≤ len) : Ds w (some ⟨b, o + 32 * k, none⟩) (len - k) (cap - k) (xs.drop (32 * k)) := by
  have hc := h.hcap
  have hm := h.hmax
  have ht := h.sl.drop (32 * k) (by omega)
  have e : 32 * len - 32 * k = 32 * (len - k) := by omega
  rw [e] at ht
  exact ⟨by omega, by omega, (fun e => by cases e), ht⟩
/-- The i-th of them. -/
def dat (xs : List Int) (i : Nat) : List Int := (xs.drop (32 * i)).take 32
theorem dat_length {xs : List Int} {n i : Nat} (h : xs.length = 32 * n) (hi : i < n) : (dat xs i).length = 32 := by
  simp [dat]; omega
theorem dat_isB {xs : List Int} (h : isB xs) (i : Nat) : isB (dat xs i) := (h.drop _).take _
theorem Ds.range {w : World} {b o len cap : Nat} {xs : List Int} (h : Ds w (some ⟨b, o, none⟩) len cap xs) (i : Nat) (hi : i < len) : w.rangeAt b (o + 32 * i) (u8s (dat xs i)) := by
  obtain ⟨b', o', e, hc⟩ := h.sl.hcell (by omega)
  cases e
  intro j v hj
  have hd := dat_length h.hlen hi
  have hjl : j < 32 := by
    have := (List.getElem?_eq_some_iff.1 hj).1
    rwa [u8s_length, hd] at this
  rw [show o + 32 * i + j = o + (32 * i + j) by omega, hc (32 * i + j) (by omega)]
  rw [u8s_get _ _ (by omega)] at hj
  rw [← hj]
  simp [dat, List.getD, List.getElem?_drop, hjl]

section
variable {dst : Option Tmp} {ty : TypeId} {pos : String} {aft : Array Edge} {gd : Option (Nat × Bool)} {ops : Array Oper} {rest : List Oper} {a : Act} {w : World} {Q : Exit → Act → World → Prop}
/-- A value of many cells in the midst of a block is loaded. -/
theorem step_loadR {T : TypeId} {n : Nat} (hT : Wide T n) {x : Operand} (hw : Region.wanted ⟨dst, .load T x, ty, pos, aft, gd⟩ (yielded ops a.tmps) = true) {g off : Nat} (hx : a.eval x = .pointer (some ⟨g, off, none⟩))
    (vs : List Value) (hr : w.rangeAt g off vs) (hn : vs.length = n) (h : wpList Tryd.prog ops Q rest (a.put dst (.agg vs.toArray)) w) :
    wpList Tryd.prog ops Q (⟨dst, .load T x, ty, pos, aft, gd⟩ :: rest) a w := by
  refine BigFrame.wpList_want hw fun _ hK => ?_
  subst hn
  obtain ⟨d, hu, hd⟩ := hT.und
  exact wp_load_mid T x rfl g off hx vs d hr hu hd hT.size (hK _ _ h)
end

theorem d_at (b o n cap i : Nat) (I : Int) (hI : I = (i : Int)) (hi : i < n) (v : World) : (Instr.indexAt 27 (.slice (some ⟨b, o, none⟩) n cap) (.int .i64 I)).run Tryd.prog v = .ok (.pointer (some ⟨b, o + 32 * i, none⟩)) v := by
  subst hI
  rw [run_indexAt_slice v _ _ _ _ .i64 i undDs, if_pos ⟨by omega, by omega⟩, elemDs, sizeDs]
  simp only [Result.andThen_ok, Int.toNat_natCast]
  rw [Addr.add_lit, Nat.mul_comm]
theorem d_to (b o n cap k : Nat) (K : Int) (hK : K = (k : Int)) (hk : k ≤ cap) (v : World) : (Instr.slice 27 (.slice (some ⟨b, o, none⟩) n cap) none (some (.int .i64 K)) none).run Tryd.prog v = .ok (.slice (some ⟨b, o, none⟩) k cap) v := by
  subst hK
  rw [run_slice_h v _ _ _ _ undDs .i64 k (by omega) (by omega), elemDs, sizeDs]
  simp [sliced, Addr.add_lit]
theorem d_from (b o n cap k : Nat) (K : Int) (hK : K = (k : Int)) (hk : k < n) (hc : n ≤ cap) (v : World) : (Instr.slice 27 (.slice (some ⟨b, o, none⟩) n cap) (some (.int .i64 K)) none none).run Tryd.prog v = .ok (.slice (some ⟨b, o + 32 * k, none⟩) (n - k) (cap - k)) v := by
  subst hK
  rw [run_slice_l v _ _ _ _ undDs .i64 k (by omega) (by omega), elemDs, sizeDs]
  have hne : ¬ cap = k := by omega
  simp [sliced, hne, Addr.add_lit, Nat.mul_comm]
theorem d_mid (b o n cap k h : Nat) (K H : Int) (hK : K = (k : Int)) (hH : H = (h : Int)) (hk : k < h) (hc : h ≤ cap) (v : World) : (Instr.slice 27 (.slice (some ⟨b, o, none⟩) n cap) (some (.int .i64 K)) (some (.int .i64 H)) none).run Tryd.prog v = .ok (.slice (some ⟨b, o + 32 * k, none⟩) (h - k) (cap - k)) v := by
  subst hK hH
  rw [run_slice_lh v _ _ _ _ undDs .i64 .i64 k h (by omega) (by omega) (by omega), elemDs, sizeDs]
  have hne : ¬ cap = k := by omega
  simp [sliced, hne, Addr.add_lit, Nat.mul_comm]


end Go.Proofs.YthgfbcndoedacaaDoor

/-
  The program's and the document's Root.
-/
namespace Go.Proofs.YthgfbcndoedacaaDoor
open Go.RowKit
set_option linter.unusedVariables false

set_option maxHeartbeats 1000000 in
theorem root_0 (a : Option Addr) (cap : Nat) (xs : List Int) (w : World) (hs : Ds w a 0 cap xs) (hk : KT w) :
    Calls Tryd.prog 28 #[.slice a 0 cap] w fun e w' => e = .returned (.agg (u8s (root xs)).toArray) ∧ Below w.heap.size w w' := by
  have HK := hide hk
  clear hk
  have hx0 : xs.length = 0 := hs.hlen
  have HX := hide hx0
  have HML := hide (show (u8s emp).length = 32 by rw [u8s_length, emp_length])
  have ER := hide (root_zero hx0)
  rw [ER.out]
  clear hs hx0
  go_enter Tryd.func28, Tryd.ntmps28
  go_wp2_with (refine step_alloc zD rfl ?_)
  intro w1 g1 hg1 hle1 hb1
  have G1 := hide hg1
  have HB1 := hide hb1
  clear hg1 hb1
  go_wp2_with fail
  refine (empty_any _ (HK.out.below HB1.out HK.out.lt)).mono ?_
  rintro e w3 ⟨rfl, hb3⟩
  have G3 := hide (G1.out.below hb3 G1.out.lt)
  go_wp2_with (refine step_storeA wD rfl rfl rfl G3.out HML.out (One.u8 _) rfl ?_; intro w4 hg4 hbut4)
  refine bodyPost_ret (results_wide rfl wD _ _ rfl hg4 HML.out) rfl ⟨rfl, ?_⟩
  exact (HB1.out.trans (hb3.mono HB1.out.size)).trans (hbut4.below hle1)

set_option maxHeartbeats 1000000 in
theorem root_1 (a : Option Addr) (cap : Nat) (xs : List Int) (w : World) (hs : Ds w a 1 cap xs) :
    Calls Tryd.prog 28 #[.slice a 1 cap] w fun e w' => e = .returned (.agg (u8s (root xs)).toArray) ∧ Below w.heap.size w w' := by
  have hx0 : xs.length = 32 := by have := hs.hlen; omega
  have HX := hide hx0
  have ER := hide (root_one hx0)
  rw [ER.out]
  have HS := hide hs
  obtain ⟨b, o, rfl⟩ := hs.place (by omega)
  have HML := hide (show (u8s xs).length = 32 by rw [u8s_length, hx0])
  have hat := d_at b o 1 cap 0 0 rfl (by omega)
  have ED := hide (show dat xs 0 = xs by rw [dat, Nat.mul_zero, List.drop_zero, List.take_of_length_le (by omega)])
  clear hs hx0
  go_enter Tryd.func28, Tryd.ntmps28
  go_wp2_with (refine step_alloc zD rfl ?_)
  intro w1 g1 hg1 hle1 hb1
  have G1 := hide hg1
  have HB1 := hide hb1
  have hrg := (HS.out.below hb1).range 0 (by omega)
  rw [ED.out] at hrg
  have HRG := hide hrg
  clear hg1 hb1 hrg
  go_wp2_with (first | (refine step_loadR wD rfl rfl _ HRG.out HML.out ?_) | (refine step_storeA wD rfl rfl rfl G1.out HML.out (One.u8 _) rfl ?_; intro w4 hg4 hbut4))
  refine bodyPost_ret (results_wide rfl wD _ _ rfl hg4 HML.out) rfl ⟨rfl, ?_⟩
  exact HB1.out.trans (hbut4.below hle1)

set_option maxRecDepth 100000 in
set_option maxHeartbeats 4000000 in
theorem root_any : ∀ (m : Nat) (a : Option Addr) (n cap : Nat) (xs : List Int) (w : World), n ≤ m → Ds w a n cap xs → KT w →
    Calls Tryd.prog 28 #[.slice a n cap] w fun e w' => e = .returned (.agg (u8s (root xs)).toArray) ∧ Below w.heap.size w w' := by
  intro m
  induction m with
  | zero => intro a n cap xs w hm hs hk; obtain rfl : n = 0 := by omega
            exact root_0 a cap xs w hs hk
  | succ m ih =>
    intro a n cap xs w hm hs hk
    by_cases h0 : n = 0
    · subst h0; exact root_0 a cap xs w hs hk
    by_cases h1 : n = 1
    · subst h1; exact root_1 a cap xs w hs
    have h2 : 2 ≤ n := by omega
    have HK := hide hk
    clear hk
    have hx := hs.hlen
    have hcap := hs.hcap
    have hmax := hs.hmax
    have hre := hs.hreach
    have hbd := hf_bd n h2 (by omega)
    have HS := hide hs
    obtain ⟨b, o, rfl⟩ := hs.place (by omega)
    have ER := hide (root_node hx h2 (by omega))
    have HDL := hide (show Ds w (some ⟨b, o, none⟩) (hf n) cap (lo xs) by rw [lo_eq hx]; exact hs.take (hf n) (by omega))
    have HDH := hide (show Ds w (some ⟨b, o + 32 * hf n, none⟩) (n - hf n) (cap - hf n) (hi xs) by rw [hi_eq hx]; exact hs.drop (hf n) (by omega))
    have LL := hide (root_length HDL.out.hlen HDL.out.hbyte)
    have LH := hide (root_length HDH.out.hlen HDH.out.hbyte)
    have BL := hide (root_isB HDL.out.hlen HDL.out.hbyte)
    have BH := hide (root_isB HDH.out.hlen HDH.out.hbyte)
    have HML := hide (show (u8s (root xs)).length = 32 by rw [u8s_length, root_length hx hs.hbyte])
    obtain ⟨k, HKE⟩ : ∃ k, Hid (hf n = k) := ⟨hf n, hide rfl⟩
    rw [HKE.out] at hbd HDL HDH
    have n0 : ¬ ((n : Int) = 0) := by omega
    have n1 : ¬ ((n : Int) = 1) := by omega
    clear hs hx
    go_enter Tryd.func28, Tryd.ntmps28
    go_wp2_with (refine step_alloc zD rfl ?_)
    intro w1 g1 hg1 hle1 hb1
    have G1 := hide hg1
    have HB1 := hide hb1
    clear hg1 hb1
    go_wp2_with fail
    refine (split_any n _ h2 (by omega)).mono ?_
    rintro e w2 ⟨rfl, rfl⟩
    rw [HKE.out]
    go_wp2_with fail
    refine wp_region_noPanic ?_
    have B0 := hide ((Below.refl w2.heap.size w2).drew)
    refine wp_region_held_drew (S := fun v : World => True) (by kernel_rfl) trivial (fun hHeld => ?_)
    refine takeH 0 21 (.slice (some ⟨b, o, none⟩) n cap) hHeld rfl rfl (by kernel_rfl) (by kernel_rfl) (by kernel_rfl) (fun _ _ _ h => h) (Or.inl ⟨by rfl, fun w _ => by go_simp⟩) ?_
    simp only [Act.put, List.setIfInBounds_toArray, List.set_cons_zero, List.set_cons_succ]
    refine takeH 1 22 (.int .i64 (k : Int)) hHeld rfl rfl (by kernel_rfl) (by kernel_rfl) (by kernel_rfl) (fun _ _ _ h => h) (Or.inl ⟨by rfl, fun w _ => by go_simp⟩) ?_
    simp only [Act.put, List.setIfInBounds_toArray, List.set_cons_zero, List.set_cons_succ]
    refine takeH 2 23 (.slice (some ⟨b, o, none⟩) k cap) hHeld rfl rfl (by kernel_rfl) (by kernel_rfl) (by kernel_rfl) (fun _ _ _ h => h) (Or.inl ⟨by rfl, fun w _ => run_op rfl (d_to b o n cap k (k : Int) rfl (by omega) w)⟩) ?_
    simp only [Act.put, List.setIfInBounds_toArray, List.set_cons_zero, List.set_cons_succ]
    refine takeH 4 25 (.slice (some ⟨b, o, none⟩) n cap) hHeld rfl rfl (by kernel_rfl) (by kernel_rfl) (by kernel_rfl) (fun _ _ _ h => h) (Or.inl ⟨by rfl, fun w _ => by go_simp⟩) ?_
    simp only [Act.put, List.setIfInBounds_toArray, List.set_cons_zero, List.set_cons_succ]
    refine takeH 5 26 (.int .i64 (k : Int)) hHeld rfl rfl (by kernel_rfl) (by kernel_rfl) (by kernel_rfl) (fun _ _ _ h => h) (Or.inl ⟨by rfl, fun w _ => by go_simp⟩) ?_
    simp only [Act.put, List.setIfInBounds_toArray, List.set_cons_zero, List.set_cons_succ]
    refine takeH 6 27 (.slice (some ⟨b, o + 32 * k, none⟩) (n - k) (cap - k)) hHeld rfl rfl (by kernel_rfl) (by kernel_rfl) (by kernel_rfl) (fun _ _ _ h => h) (Or.inl ⟨by rfl, fun w _ => run_op rfl (d_from b o n cap k (k : Int) rfl (by omega) (by omega) w)⟩) ?_
    simp only [Act.put, List.setIfInBounds_toArray, List.set_cons_zero, List.set_cons_succ]
    have B01 := hide (HB1.out.trans (B0.out.mono HB1.out.size))
    refine wpAnyH_ready (rs := [3]) (by kernel_rfl) (by simp) (AllReadyH.cons rfl (fun K hK => ?_) AllReadyH.nil)
    rw [if_pos (by rfl)]
    go_simp
    refine (ih _ _ _ (lo xs) _ (by omega) (HDL.out.below B01.out) (HK.out.below B01.out HK.out.lt)).mono ?_
    rintro e v1 ⟨rfl, hv1⟩
    have B1 := hide (B01.out.trans (hv1.mono B01.out.size))
    refine hK.out _ _ (trivial) (fun hHeld => ?_)
    clear hK K
    refine wpAnyH_ready (rs := [7]) (by kernel_rfl) (by simp) (AllReadyH.cons rfl (fun K hK => ?_) AllReadyH.nil)
    rw [if_pos (by rfl)]
    go_simp
    refine (ih _ _ _ (hi xs) _ (by omega) (HDH.out.below B1.out) (HK.out.below B1.out HK.out.lt)).mono ?_
    rintro e v2 ⟨rfl, hv2⟩
    have B2 := hide (B1.out.trans (hv2.mono B1.out.size))
    refine hK.out _ _ (trivial) (fun hHeld => ?_)
    clear hK K
    refine wpAnyH_ready (rs := [8]) (by kernel_rfl) (by simp) (AllReadyH.cons rfl (fun K hK => ?_) AllReadyH.nil)
    rw [if_pos (by rfl)]
    go_simp
    refine (node_any (root (lo xs)) (root (hi xs)) _ LL.out BL.out LH.out BH.out (HK.out.below B2.out HK.out.lt)).mono ?_
    rintro e v3 ⟨rfl, hv3⟩
    rw [← ER.out]
    have B3 := hide (B2.out.trans (hv3.mono B2.out.size))
    have G3 := hide (((((G1.out.below B0.out G1.out.lt).below hv1 (G1.out.below B0.out G1.out.lt).lt).below hv2 ((G1.out.below B0.out G1.out.lt).below hv1 (G1.out.below B0.out G1.out.lt).lt).lt)).below hv3 (((G1.out.below B0.out G1.out.lt).below hv1 (G1.out.below B0.out G1.out.lt).lt).below hv2 ((G1.out.below B0.out G1.out.lt).below hv1 (G1.out.below B0.out G1.out.lt).lt).lt).lt)
    refine hK.out _ _ (trivial) (fun hHeld => ?_)
    clear hK K
    refine wpAnyH_ready (rs := [9]) (by kernel_rfl) (by simp) (AllReadyH.cons rfl (fun K hK => ?_) AllReadyH.nil)
    rw [if_pos (by rfl)]
    refine wp_storeW wD rfl rfl rfl G3.out HML.out (One.u8 _) (by simp [u8s_length, zer_length]) ?_
    intro v5 hgs hbuts
    refine hK.out _ _ trivial (fun hHeld => ?_)
    clear hK K
    simp only [Act.put]
    refine wpAnyH_done (by kernel_rfl) ?_ _
    refine NoPanic.normal ?_
    clear hHeld
    have EZ : Hid (spl (u8s (zer 32)) (u8s (root xs)) 0 = u8s (root xs)) := hide (by
      unfold spl
      rw [List.drop_of_length_le (by rw [HML.out, u8s_length, zer_length]; omega)]
      simp)
    rw [EZ.out] at hgs
    go_wp2
    refine bodyPost_ret (results_wide rfl wD _ _ rfl hgs HML.out) rfl ⟨rfl, ?_⟩
    exact B3.out.trans (hbuts.below hle1)


end Go.Proofs.YthgfbcndoedacaaDoor
