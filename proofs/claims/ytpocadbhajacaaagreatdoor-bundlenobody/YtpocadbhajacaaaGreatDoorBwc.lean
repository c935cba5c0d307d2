/-
  Which leaves are there, where they lie, how many there are. No program here.
-/
import Derived.Test.YtpocadbhajacaaaGreatDoorBwa
namespace Go.Proofs.YtpocadbhajacaaaGreatDoor
open Go.RowKit
set_option linter.unusedVariables false
set_option linter.unusedSimpArgs false

/-- Where a leaf lies behind those ahead of it. -/
def offL (ls : List (List Int)) (k : Nat) : Nat := (lfF (ls.take k)).length
theorem lfF_len_nil : (lfF []).length = 0 := rfl
theorem offL_zero (ls : List (List Int)) : offL ls 0 = 0 := by simp [offL, lfF]
theorem offL_succ {ls : List (List Int)} {k : Nat} (h : k < ls.length) : offL ls (k + 1) = offL ls k + 2 + (ls.getD k []).length := by
  unfold offL
  rw [List.take_succ_eq_append_getElem h, lfF_app, List.length_append]
  have e : lfF [ls[k]] = lfB ls[k] := by simp [lfF]
  rw [e, lfB_len]
  have e2 : ls.getD k [] = ls[k] := by simp [List.getD, h]
  rw [e2]
  omega
theorem offL_all (m : Nat) (b : List Int) {k : Nat} (h : (wl m b).length ≤ k) : offL (wl m b) k = wlE m b := by
  unfold offL wlE
  rw [List.take_of_length_le h]
theorem offL_take (ls : List (List Int)) {k m : Nat} (h : k ≤ m) : offL (ls.take m) k = offL ls k := by
  unfold offL
  rw [List.take_take, Nat.min_eq_left h]
theorem offL_mono (ls : List (List Int)) {k m : Nat} (h : k ≤ m) : offL ls k ≤ offL ls m := by
  unfold offL
  rw [← Nat.add_sub_cancel' h, List.take_add, lfF_app, List.length_append]
  omega
/-- What stands at a leaf's place. -/
theorem wl_at {m : Nat} {b : List Int} (hb : isB b) {k : Nat} (hk : k < (wl m b).length) : ∃ t, b.drop (offL (wl m b) k) = lfB ((wl m b).getD k []) ++ t := by
  obtain ⟨rest, e, _⟩ := wl_pre m b hb
  refine ⟨lfF ((wl m b).drop (k + 1)) ++ rest, ?_⟩
  have e1 : wl m b = (wl m b).take k ++ ((wl m b).getD k [] :: (wl m b).drop (k + 1)) := by
    have e2 : (wl m b).getD k [] = (wl m b)[k] := by simp [List.getD, hk]
    rw [e2, ← List.drop_eq_getElem_cons hk, List.take_append_drop]
  have e3 : b = lfF ((wl m b).take k) ++ (lfB ((wl m b).getD k []) ++ (lfF ((wl m b).drop (k + 1)) ++ rest)) := by
    conv => lhs; rw [e, e1, lfF_app, lfF_cons]
    simp only [List.append_assoc]
  unfold offL
  generalize hz : (wl m b).getD k [] = z at *
  generalize hy : (wl m b).drop (k + 1) = y at *
  generalize hx : (wl m b).take k = x at *
  rw [e3, List.drop_left]
theorem wl_end {m : Nat} {b : List Int} (hb : isB b) (h : (wl m b).length < m) : wl 1 (b.drop (wlE m b)) = [] := by
  obtain ⟨rest, e, h2⟩ := wl_pre m b hb
  have e2 : b.drop (wlE m b) = rest := by
    unfold wlE
    generalize wl m b = x at *
    rw [e, List.drop_left]
  rw [e2]
  rcases h2 with h2 | h2
  · omega
  · exact h2
theorem wl1_cons {a c : Int} {t : List Int} (h : wl 1 (a :: c :: t) = []) : t.length < (a * 256 + c).toNat := by
  unfold wl at h
  split at h
  · simp at h
  · omega
theorem offL_le {m : Nat} {b : List Int} (hb : isB b) (k : Nat) : offL (wl m b) k ≤ b.length := by
  rcases Nat.lt_or_ge k (wl m b).length with h | h
  · exact Nat.le_trans (offL_mono _ (Nat.le_of_lt h)) (by rw [offL_all m b (Nat.le_refl _)]; exact wlE_le m b hb)
  · rw [offL_all m b h]
    exact wlE_le m b hb
theorem offL_next {m : Nat} {b : List Int} (hb : isB b) {k : Nat} (hk : k < (wl m b).length) : offL (wl m b) k + 2 + ((wl m b).getD k []).length ≤ b.length := by
  rw [← offL_succ hk]
  exact offL_le hb _
theorem getD_mem {α : Type} {d : α} : ∀ {l : List α} {k : Nat}, k < l.length → l.getD k d ∈ l := by
  intro l k h
  have e2 : l.getD k d = l[k] := by simp [List.getD, h]
  rw [e2]
  exact List.getElem_mem h

/-! ### a height's leaves -/
/-- The whole leaves of a file. -/
def wlF (F : ByteArray → Option (List Int)) (h q : Nat) : List (List Int) := wl (2 ^ h) (fl F (lfN h q))
/-- Is the leaf j there, if those ahead of it are? -/
def hasL (F : ByteArray → Option (List Int)) (h j : Nat) : Bool := decide (j < 1048576) && decide (j % 2 ^ h < (wlF F h (j / 2 ^ h)).length)
/-- A height has n leaves. -/
def CnL (F : ByteArray → Option (List Int)) (h n : Nat) : Prop := (∀ j, j < n → hasL F h j = true) ∧ hasL F h n = false
theorem CnL.uniq {F : ByteArray → Option (List Int)} {h n m : Nat} (a : CnL F h n) (b : CnL F h m) : n = m := by
  rcases Nat.lt_trichotomy n m with g | g | g
  · have := b.1 n g; rw [a.2] at this; cases this
  · exact g
  · have := a.1 m g; rw [b.2] at this; cases this
theorem CnL.have (F : ByteArray → Option (List Int)) (h : Nat) : ∃ n, CnL F h n := least (hasL F h) 1048576 (by simp [hasL])
theorem CnL.le {F : ByteArray → Option (List Int)} {h n : Nat} (k : CnL F h n) : n ≤ 1048576 := by
  cases n with
  | zero => omega
  | succ n =>
    have := k.1 n (Nat.lt_succ_self n)
    simp only [hasL, Bool.and_eq_true, decide_eq_true_eq] at this
    omega
/-- The leaf j. -/
def lf (F : ByteArray → Option (List Int)) (h j : Nat) : List Int := (wlF F h (j / 2 ^ h)).getD (j % 2 ^ h) []
def lfs (F : ByteArray → Option (List Int)) (h n : Nat) : List (List Int) := (List.range n).map (lf F h)
theorem lfs_len (F : ByteArray → Option (List Int)) (h n : Nat) : (lfs F h n).length = n := by simp [lfs]
theorem lfs_succ (F : ByteArray → Option (List Int)) (h n : Nat) : lfs F h (n + 1) = lfs F h n ++ [lf F h n] := by simp [lfs, List.range_succ]
theorem wlF_le (F : ByteArray → Option (List Int)) (h q : Nat) : (wlF F h q).length ≤ 2 ^ h := wl_le _ _
/-- Files end at a multiple of their number of leaves. -/
theorem hB.fit {h : Nat} (k : hB h) {i : Nat} (hi : i * 2 ^ h < 1048576) : i * 2 ^ h + 2 ^ h ≤ 1048576 := by
  obtain ⟨a, b⟩ := k
  rcases (by omega : h = 1 ∨ h = 2 ∨ h = 3 ∨ h = 4 ∨ h = 5 ∨ h = 6 ∨ h = 7 ∨ h = 8) with rfl | rfl | rfl | rfl | rfl | rfl | rfl | rfl <;> simp only [Nat.reducePow] at * <;> omega
theorem hasL_at {F : ByteArray → Option (List Int)} {h i k : Nat} (hi : i * 2 ^ h + k < 1048576) (hk : k < 2 ^ h) : hasL F h (i * 2 ^ h + k) = decide (k < (wlF F h i).length) := by
  unfold hasL
  rw [Nat.mul_comm i, Nat.mul_add_mod, Nat.mul_add_div (Nat.two_pow_pos h), Nat.mod_eq_of_lt hk, Nat.div_eq_of_lt hk, Nat.add_zero]
  rw [Nat.mul_comm] at hi
  simp [hi]
theorem lf_at {F : ByteArray → Option (List Int)} {h i k : Nat} (hk : k < 2 ^ h) : lf F h (i * 2 ^ h + k) = (wlF F h i).getD k [] := by
  unfold lf
  rw [Nat.mul_comm i, Nat.mul_add_mod, Nat.mul_add_div (Nat.two_pow_pos h), Nat.mod_eq_of_lt hk, Nat.div_eq_of_lt hk, Nat.add_zero]
/-- What a file has of a height's leaves. -/
theorem CnL.at' {F : ByteArray → Option (List Int)} {h n : Nat} (c : CnL F h n) (hh : hB h) {i : Nat} (h1 : i * 2 ^ h ≤ n) (h2 : i * 2 ^ h < 1048576) : i * 2 ^ h + (wlF F h i).length ≤ n ∧ ((wlF F h i).length < 2 ^ h → n = i * 2 ^ h + (wlF F h i).length) := by
  have hf := hh.fit h2
  have hl := wlF_le F h i
  have key : ∀ k, k < (wlF F h i).length → n ≠ i * 2 ^ h + k := fun k hk e => by
    have h3 := c.2
    rw [e, hasL_at (by omega) (by omega)] at h3
    simp only [decide_eq_false_iff_not] at h3
    exact h3 hk
  have hle : i * 2 ^ h + (wlF F h i).length ≤ n := by
    rcases Nat.lt_or_ge n (i * 2 ^ h + (wlF F h i).length) with hlt | hge
    · exact absurd (show n = i * 2 ^ h + (n - i * 2 ^ h) by omega) (key _ (by omega))
    · exact hge
  refine ⟨hle, fun hlt => ?_⟩
  rcases Nat.lt_or_ge (i * 2 ^ h + (wlF F h i).length) n with h3 | h3
  · have h4 := c.1 _ h3
    rw [hasL_at (by omega) hlt] at h4
    simp at h4
  · omega
/-- Files ahead of the last one are full. -/
theorem CnL.full {F : ByteArray → Option (List Int)} {h n : Nat} (c : CnL F h n) (hh : hB h) {i : Nat} (h1 : (i + 1) * 2 ^ h ≤ n) : (wlF F h i).length = 2 ^ h := by
  have hp := Nat.two_pow_pos h
  have hn := c.le
  rw [Nat.add_mul, Nat.one_mul] at h1
  have hl := wlF_le F h i
  obtain ⟨a, b⟩ := c.at' hh (i := i) (by omega) (by omega)
  rcases Nat.lt_or_ge (wlF F h i).length (2 ^ h) with h3 | h3
  · have := b h3; omega
  · omega
/-- The last one. -/
theorem CnL.last {F : ByteArray → Option (List Int)} {h n : Nat} (c : CnL F h n) (hh : hB h) (h1 : n < 1048576) : (wlF F h (n / 2 ^ h)).length = n % 2 ^ h := by
  have hp := Nat.two_pow_pos h
  have e := Nat.div_add_mod n (2 ^ h)
  have m := Nat.mod_lt n hp
  rw [Nat.mul_comm] at e
  obtain ⟨a, b⟩ := c.at' hh (i := n / 2 ^ h) (by omega) (by omega)
  have := b (by omega)
  omega
/-- Where a leaf lies: its file, its place, its length. -/
abbrev Plc := ByteArray × Nat × Nat
def plK (nm : ByteArray) (ls : List (List Int)) (k : Nat) : Plc := (nm, offL ls k + 2, (ls.getD k []).length)
def plL (F : ByteArray → Option (List Int)) (h j : Nat) : Plc := plK (lfN h (j / 2 ^ h)) (wlF F h (j / 2 ^ h)) (j % 2 ^ h)
def plsL (F : ByteArray → Option (List Int)) (h n : Nat) : List Plc := (List.range n).map (plL F h)
theorem plsL_len (F : ByteArray → Option (List Int)) (h n : Nat) : (plsL F h n).length = n := by simp [plsL]
theorem plsL_succ (F : ByteArray → Option (List Int)) (h n : Nat) : plsL F h (n + 1) = plsL F h n ++ [plL F h n] := by simp [plsL, List.range_succ]
theorem plL_at {F : ByteArray → Option (List Int)} {h i k : Nat} (hk : k < 2 ^ h) : plL F h (i * 2 ^ h + k) = plK (lfN h i) (wlF F h i) k := by
  unfold plL
  rw [Nat.mul_comm i, Nat.mul_add_mod, Nat.mul_add_div (Nat.two_pow_pos h), Nat.mod_eq_of_lt hk, Nat.div_eq_of_lt hk, Nat.add_zero]
/-- The leaves of a file, with their places. -/
def wls (nm : ByteArray) (ls : List (List Int)) (n : Nat) : List (Nat × Plc) := (List.range n).map fun k => (k, plK nm ls k)
theorem wls_len (nm : ByteArray) (ls : List (List Int)) (n : Nat) : (wls nm ls n).length = n := by simp [wls]
theorem wls_succ (nm : ByteArray) (ls : List (List Int)) (n : Nat) : wls nm ls (n + 1) = wls nm ls n ++ [(n, plK nm ls n)] := by simp [wls, List.range_succ]

end Go.Proofs.YtpocadbhajacaaaGreatDoor
