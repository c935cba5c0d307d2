/-
  The walk of CompactTree.
-/
import Derived.Test.YthgfbcndoedacaaDoorRz
import Derived.Test.YthgfbcndoedacaaDoorRc
import Derived.Test.YthgfbcndoedacaaDoorRd
namespace Go.Proofs.YthgfbcndoedacaaDoor
open Go.RowKit Go.Shelf
set_option linter.unusedVariables false

/-- A number brought among 0 .. n - 1. -/
theorem aux_mod (x : Int) (n : Nat) (h0 : 0 < n) (hn : n ≤ 281474976710656) : ∃ (r : Int) (b : Nat), x.tmod (n : Int) = r ∧ wrap64 (r + (n : Int)) = r + (n : Int) ∧ (r + (n : Int)).tmod (n : Int) = (b : Int) ∧ b < n ∧ wrap64 r = r := by
  refine ⟨x.tmod n, ((x.tmod n + n).tmod n).toNat, rfl, ?_, ?_, ?_, ?_⟩
  all_goals
    have h1 := Int.tmod_lt_of_pos x (show (0 : Int) < (n : Int) by omega)
    have h2 : -(n : Int) < x.tmod n := by
      have := Int.lt_tmod_of_pos x (show (0 : Int) < (n : Int) by omega)
      omega
    generalize x.tmod n = r at *
  · unfold wrap64; omega
  · have h3 := Int.tmod_nonneg (n : Int) (show 0 ≤ r + n by omega)
    omega
  · have h3 := Int.tmod_lt_of_pos (r + n) (show (0 : Int) < (n : Int) by omega)
    have h4 := Int.tmod_nonneg (n : Int) (show 0 ≤ r + n by omega)
    omega
  · unfold wrap64; omega

theorem aux_shl (i L s : Nat) (h : i * 2 ^ L = s) (hs : s ≤ 1048576) : wrap64 ((i : Int) * 2 ^ L) = (s : Int) := by
  have e1 : ((i : Int) * 2 ^ L) = (s : Int) := by rw [← h]; simp [Int.natCast_mul, Int.natCast_pow]
  rw [e1]
  unfold wrap64
  omega
theorem aux_add64 (s P u : Nat) (h : u = s + P) (hu : u ≤ 1048576) : wrap64 ((s : Int) + (P : Int)) = (u : Int) := by
  unfold wrap64
  omega
/-- A part's numbers. -/
theorem part_facts (b n k L i : Nat) (hbn : b ≤ n) (hn : n ≤ 1048576) (hq : (parts b n)[k]? = some (L, i)) :
    ∃ s P u, Hid (pbeg b n k = s) ∧ Hid (2 ^ L = P) ∧ Hid (pbeg b n (k + 1) = u) ∧ Hid (i * 2 ^ L = s) ∧ Hid (u = s + P) ∧ u ≤ n ∧ s < u ∧ (¬ (L : Int) < 0 ∧ ¬ (40 : Int) < (L : Int)) ∧ wrap64 ((i : Int) * 2 ^ L) = (s : Int) ∧ wrap64 (2 ^ L) = (P : Int) ∧ wrap64 ((s : Int) + (P : Int)) = (u : Int) := by
  obtain ⟨q1, q2, q3⟩ := pbeg_at hbn (Nat.le_trans hn (by decide)) hq
  have hP0 := Nat.two_pow_pos L
  have hsu : pbeg b n k < pbeg b n (k + 1) := by rw [q2]; exact Nat.lt_add_of_pos_right hP0
  have hP1 : 2 ^ L ≤ 1048576 := Nat.le_trans (Nat.le_add_left _ _) (Nat.le_trans (Nat.le_of_eq q2.symm) (Nat.le_trans q3 hn))
  have hs1 : pbeg b n k ≤ 1048576 := Nat.le_trans (Nat.le_of_lt hsu) (Nat.le_trans q3 hn)
  have hL : L ≤ 20 := ?_
  refine ⟨_, _, _, hide rfl, hide rfl, hide rfl, hide q1, hide q2, q3, hsu, ⟨by omega, by omega⟩, aux_shl i L _ q1 hs1, aux_pow _ L (hide rfl) (Nat.le_trans hP1 (by decide)), aux_add64 _ _ _ q2 (Nat.le_trans q3 hn)⟩
  clear hsu hs1
  simp only at q2
  apply Nat.le_of_not_lt
  intro hl
  have h1 : 2 ^ 21 ≤ 2 ^ L := Nat.pow_le_pow_right (by decide) hl
  have h2 : (2 : Nat) ^ 21 = 2097152 := by decide
  rw [h2] at h1
  revert q2 q3 h1
  generalize pbeg b n (k + 1) = u
  generalize pbeg b n k = s
  generalize 2 ^ L = P
  intro q2 q3 h1
  omega
theorem sub_told (xs : List Int) (n s u : Nat) (h : s < u) (hu : u ≤ n) : sbD xs n (s : Int) (u : Int) = root (sub xs s u) ∧ sbE n (s : Int) (u : Int) = 0 := by
  unfold sbD sbE
  rw [if_neg (by omega), if_neg (by omega)]
  exact ⟨rfl, rfl⟩
theorem ne_cast {a b : Nat} (h : a ≠ b) : ¬ ((a : Int) = (b : Int)) := fun e => h (by omega)
theorem not_pre {pre : List Nat} {k x N : Nat} (hk : pre.length = k) (hlt : k < N) (h : x ≠ k) : ¬ (pre ++ [x]) <+: List.range N := by
  rintro ⟨r', hr'⟩
  apply h
  have e1 : (List.range N)[k]? = some x := by
    rw [← hr', List.append_assoc, List.getElem?_append_right (by omega), hk, Nat.sub_self]
    rfl
  rw [List.getElem?_range hlt] at e1
  injection e1 with e1
  exact e1.symm
theorem range_snoc {pre : List Nat} {k : Nat} (hp : pre = List.range pre.length) (hk : pre.length = k) : pre ++ [k] = List.range (k + 1) := by
  rw [List.range_succ]
  congr 1
  rw [← hk]
  exact hp

theorem POwn.kept {A B : World} {B0 : Nat} {v : Value} {ps : List Pt} {row : Option Nat} (h : POwn A B0 v ps) (hg : A.grownBy B row) (hr : ∀ r, row = some r → ∃ o : Obj, A.heap[r]? = some o ∧ o.isCells = false) : POwn B B0 v ps := by
  obtain ⟨h1, h2⟩ := h
  refine ⟨h1, ?_⟩
  rcases h2 with h2 | ⟨k, cap, cur, rfl, hk, hh, r⟩
  · exact .inl h2
  · refine .inr ⟨k, cap, cur, rfl, hk, ?_, r⟩
    rw [hg.block k (Array.getElem?_eq_some_iff.1 hh).1 (fun e => by
      obtain ⟨o, ho, hc⟩ := hr k e.symm
      rw [hh] at ho
      injection ho with ho
      subst ho
      cases hc)]
    exact hh
theorem Rg.kept {A B : World} {B0 g b e : Nat} {v : Value} {ps : List Pt} {row : Option Nat} (h : Rg A B0 g b e v ps) (hg : A.grownBy B row) (hr : ∀ r, row = some r → ∃ o : Obj, A.heap[r]? = some o ∧ o.isCells = false) : Rg B B0 g b e v ps := ⟨h.blk.kept hg hr, h.own.kept hg hr, h.good, h.nodes, h.le, h.max⟩

/-- What the law's loop keeps. -/
structure TS (w W : World) (gl gb ga : Nat) (a : Option Addr) (n cap at' B2 g2 : Nat) (v2 : Value) (xs : List Int) : Prop where
  cl : Blk W gl 27 [.slice a n cap]
  cb : Blk W gb 4 [.bool false]
  ca : Blk W ga 3 [.int .i64 (at' : Int)]
  bel : Below w.heap.size w W
  rg : Rg W B2 g2 0 n v2 (rps xs 0 n)
section
variable {w W W' : World} {gl gb ga : Nat} {a : Option Addr} {n cap at' B2 g2 : Nat} {v2 : Value} {xs : List Int}
theorem TS.below (h : TS w W gl gb ga a n cap at' B2 g2 v2 xs) (hb : Below W.heap.size W W') : TS w W' gl gb ga a n cap at' B2 g2 v2 xs :=
  ⟨h.cl.below hb h.cl.lt, h.cb.below hb h.cb.lt, h.ca.below hb h.ca.lt, h.bel.trans (hb.mono h.bel.size), h.rg.below hb⟩
theorem TS.kept {row : Option Nat} (h : TS w W gl gb ga a n cap at' B2 g2 v2 xs) (hg : W.grownBy W' row) (hr : ∀ r, row = some r → w.heap.size ≤ r ∧ ∃ o : Obj, W.heap[r]? = some o ∧ o.isCells = false) : TS w W' gl gb ga a n cap at' B2 g2 v2 xs :=
  have hr2 : ∀ r, row = some r → ∃ o : Obj, W.heap[r]? = some o ∧ o.isCells = false := fun r e => (hr r e).2
  ⟨h.cl.kept hg hr2, h.cb.kept hg hr2, h.ca.kept hg hr2, h.bel.grown hg h.bel.size (fun r e => (hr r e).1), h.rg.kept hg hr2⟩
theorem TS.set (h : TS w W gl gb ga a n cap at' B2 g2 v2 xs) (at2 : Nat) (hga : w.heap.size ≤ ga) : TS w (W.setCell ⟨ga, 0, none⟩ (.int .i64 (at2 : Int))) gl gb ga a n cap at2 B2 g2 v2 xs := by
  have hb := But.setCell W ga 0 (.int .i64 (at2 : Int))
  have hS : ∀ k, Foot g2 v2 k → ¬ k = ga := by
    rintro k (rfl | e) rfl
    · exact (h.rg.blk.apart h.ca (by decide)) rfl
    · exact (h.rg.own.apart h.ca (by decide)) e
  exact ⟨h.cl.but hb (h.cl.apart h.ca (by decide)), h.cb.but hb (h.cb.apart h.ca (by decide)), h.ca.set 0 _, h.bel.trans (hb.below hga), h.rg.chs ((Chs.refl (fun k => k = ga) W).thenBut hb (.inl rfl)) hS⟩
end


end Go.Proofs.YthgfbcndoedacaaDoor
