/-
  A range of leaves' digests has for each part the tree's root of it; Append; the law's ranged.
-/
import Derived.Test.YthgfbcndoedacaaDoorRx
namespace Go.Proofs.YthgfbcndoedacaaDoor
open Go.RowKit Go.Shelf
set_option linter.unusedVariables false

theorem hf_pow (k : Nat) (hk : k < 62) : hf (2 ^ (k + 1)) = 2 ^ k := by
  have hp := Nat.two_pow_pos k
  have hlt : 2 ^ (k + 1) < 2 ^ 64 := Nat.pow_lt_pow_right (by omega) (by omega)
  have e2 : 2 ^ (k + 1) = 2 * 2 ^ k := by rw [Nat.pow_succ]; omega
  obtain ⟨h1, h2, h3⟩ := hf_bd (2 ^ (k + 1)) (by omega) hlt
  obtain ⟨j, hj⟩ : ∃ j, hf (2 ^ (k + 1)) = 2 ^ j := ⟨_, rfl⟩
  rw [hj] at h2 h3 ⊢
  have e3 : 2 * 2 ^ j = 2 ^ (j + 1) := by rw [Nat.pow_succ]; omega
  rw [e3] at h3
  have a1 := (Nat.pow_lt_pow_iff_right (a := 2) (by omega)).1 h2
  have a2 := (Nat.pow_le_pow_iff_right (a := 2) (by omega)).1 h3
  obtain rfl : j = k := by omega
  rfl
theorem sub_halves {xs : List Int} {n s P : Nat} (h : xs.length = 32 * n) (hf' : hf (2 * P) = P) (hP : 1 ≤ P) (hs : s + 2 * P ≤ n) (hn : n < 2 ^ 62) : root (sub xs s (s + 2 * P)) = nd (root (sub xs s (s + P))) (root (sub xs (s + P) (s + 2 * P))) := by
  have hl := sub_length h (show s ≤ s + 2 * P by omega) hs
  have e0 : s + 2 * P - s = 2 * P := by omega
  rw [e0] at hl
  rw [root_node hl (by omega) (by omega), lo_eq hl, hi_eq hl, hf']
  congr 2
  · unfold sub
    rw [List.take_take, show s + P - s = P by omega, Nat.min_eq_left (by omega)]
  · unfold sub
    rw [List.drop_take, List.drop_drop]
    congr 1
    · omega
    · congr 1
      omega
/-- The root of a node's leaves. -/
def rd (xs : List Int) (n : Nat × Nat) : List Int := root (sub xs (n.2 * 2 ^ n.1) ((n.2 + 1) * 2 ^ n.1))
/-- The parts of a range of leaves. -/
def rps (xs : List Int) (b e : Nat) : List Pt := (parts b e).map fun n => (n, rd xs n)
theorem rd_join {xs : List Int} {n : Nat} (h : xs.length = 32 * n) (hn : n < 2 ^ 62) (q p : Nat × Nat) (hb : (p.2 + 1) * 2 ^ p.1 ≤ n) (hs : sib q p = true) : rd xs (p.1 + 1, p.2 / 2) = nd (rd xs q) (rd xs p) := by
  obtain ⟨k, i⟩ := q
  obtain ⟨k', j⟩ := p
  obtain ⟨h1, h2, h3⟩ := sib_iff.1 hs
  simp only at h1 h2 h3 hb
  subst h1
  subst h3
  have hp := Nat.two_pow_pos k
  have hk : k < 62 := by
    apply Nat.lt_of_not_le
    intro hl
    have a1 : 2 ^ 62 ≤ 2 ^ k := Nat.pow_le_pow_right (by omega) hl
    have a2 : 2 ^ k ≤ (i + 1 + 1) * 2 ^ k := Nat.le_mul_of_pos_left _ (by omega)
    omega
  have e1 : (i + 1) / 2 * 2 ^ (k + 1) = i * 2 ^ k := by
    rw [Nat.pow_succ, Nat.mul_comm (2 ^ k) 2, ← Nat.mul_assoc]
    congr 1
    omega
  have e2 : ((i + 1) / 2 + 1) * 2 ^ (k + 1) = i * 2 ^ k + 2 * 2 ^ k := by
    rw [Nat.add_mul, e1, Nat.pow_succ]
    omega
  have e3 : (i + 1) * 2 ^ k = i * 2 ^ k + 2 ^ k := by rw [Nat.add_mul]; omega
  have e4 : (i + 1 + 1) * 2 ^ k = i * 2 ^ k + 2 * 2 ^ k := by rw [Nat.add_mul, Nat.add_mul]; omega
  have hfp : hf (2 * 2 ^ k) = 2 ^ k := by
    have := hf_pow k hk
    rwa [Nat.pow_succ, Nat.mul_comm (2 ^ k) 2] at this
  unfold rd
  simp only
  rw [e1, e2, e3, e4]
  rw [e4] at hb
  exact sub_halves h hfp hp hb hn
theorem abutN_get : ∀ (st : List (Nat × Nat)) (s i : Nat) (q r : Nat × Nat), AbutN st s → st[i]? = some q → st[i + 1]? = some r → (r.2 + 1) * 2 ^ r.1 = q.2 * 2 ^ q.1
  | [], _, _, _, _, _, h, _ => by cases h
  | p :: st, s, 0, q, r, h, h1, h2 => by
    simp at h1 h2
    subst h1
    cases st with
    | nil => simp at h2
    | cons a st => simp at h2; subst h2; exact h.2.1
  | p :: st, s, i + 1, q, r, h, h1, h2 => abutN_get st _ i q r h.2 (by simpa using h1) (by simpa using h2)
theorem abutN_le : ∀ (st : List (Nat × Nat)) (s i : Nat) (q : Nat × Nat), AbutN st s → st[i]? = some q → (q.2 + 1) * 2 ^ q.1 ≤ s
  | [], _, _, _, _, h => by cases h
  | p :: st, s, 0, q, h, h1 => by
    simp at h1
    subst h1
    exact Nat.le_of_eq h.1
  | p :: st, s, i + 1, q, h, h1 => by
    refine Nat.le_trans (abutN_le st _ i q h.2 (by simpa using h1)) ?_
    have := h.1
    rw [Nat.add_mul] at this
    omega
theorem rps_step {xs : List Int} {n b e : Nat} (h : xs.length = 32 * n) (hn : n ≤ 2 ^ 47) (hbe : b ≤ e) (he : e < n) : putL (rps xs b e) ((0, e), dat xs e) = rps xs b (e + 1) := by
  have hm : e + 2 ^ 0 ≤ 2 ^ 48 := by
    rw [Nat.pow_zero]
    have : (2 : Nat) ^ 47 < 2 ^ 48 := by decide
    omega
  have hA := (parts_abut (e - b) b e (Nat.le_refl _) hbe (by omega)).1
  have hn62 : n < 2 ^ 62 := by
    have : (2 : Nat) ^ 47 < 2 ^ 62 := by decide
    omega
  have e0 : dat xs e = rd xs (0, e) := by
    unfold rd dat
    simp only [Nat.pow_zero, Nat.mul_one]
    have hl := sub_length h (show e ≤ e + 1 by omega) (show e + 1 ≤ n by omega)
    rw [root_one (by rw [hl]; omega)]
    unfold sub
    rw [show e + 1 - e = 1 by omega]
  have key := putS_told nd (rd xs) (fun q p => (q.2 + 1) * 2 ^ q.1 = p.2 * 2 ^ p.1 ∧ (p.2 + 1) * 2 ^ p.1 ≤ n)
    (fun q p hS hs => rd_join h hn62 q p hS.2 hs)
    (fun r q p hS hR hs => by
      obtain ⟨s1, s2, s3⟩ := sib_iff.1 hs
      obtain ⟨p1, p2⟩ := p
      obtain ⟨q1, q2⟩ := q
      simp only at s1 s2 s3 hS hR ⊢
      subst s1
      subst s3
      have c1 : (q2 + 1) / 2 * 2 ^ (q1 + 1) = q2 * 2 ^ q1 := by
        rw [Nat.pow_succ, Nat.mul_comm (2 ^ q1) 2, ← Nat.mul_assoc]
        congr 1
        omega
      have c2 : ((q2 + 1) / 2 + 1) * 2 ^ (q1 + 1) = (q2 + 1 + 1) * 2 ^ q1 := by
        rw [Nat.add_mul, c1, Nat.pow_succ, Nat.add_mul, Nat.add_mul]
        omega
      rw [c1, c2]
      exact ⟨hR.1, hS.2⟩)
    (parts b e).reverse (0, e)
    (fun q hq => by
      cases hst : (parts b e).reverse with
      | nil => rw [hst] at hq; cases hq
      | cons a st =>
        rw [hst] at hq hA
        simp at hq
        subst hq
        simp only [Nat.pow_zero, Nat.mul_one]
        exact ⟨hA.1, by omega⟩)
    (fun i q r h1 h2 => ⟨abutN_get _ _ i q r hA h1 h2, Nat.le_trans (abutN_le _ _ i q hA h1) (by omega)⟩)
  have kp := parts_put (e - b) b e 0 (Nat.le_refl _) hbe (by simp) hm
  rw [Nat.pow_zero, Nat.div_one] at kp
  unfold putL rps
  rw [← List.map_reverse, e0, key, ← List.map_reverse, kp]

set_option maxRecDepth 100000 in
set_option maxHeartbeats 400000 in
theorem app_ok (B g b e : Nat) (v : Value) (ps : List Pt) (d : List Int) (w : World) (hr : Rg w B g b e v ps) (hB : B ≤ w.heap.size) (hk : KT w) (hkg : 2 < g) (hkB : 2 < B) (hm : e + 1 ≤ 281474976710656) (hdl : d.length = 32) (hdb : isB d) :
    Calls Tryd.prog 15 #[.pointer (some ⟨g, 0, none⟩), .agg (u8s d).toArray] w fun r w' => ∃ v', r = .returned (.int .i64 0) ∧ Rg w' B g b (e + 1) v' (putL ps ((0, e), d)) ∧ Chs (Foot g v) w w' ∧ (∀ k, v'.ownBlock = some k → v.ownBlock = some k ∨ w.heap.size ≤ k) := by
  have HL := hide (show (u8s d).length = 32 by rw [u8s_length, hdl])
  have HA := hide (fun (w1 : World) (hb : Below w.heap.size w w1) => appN_ok B g b e 0 v ps d w1 (hr.below hb) (Nat.le_trans hB hb.size) (hk.below hb hk.lt) hkg hkB (by omega) (by simp) (by simpa using hm) hdl hdb)
  clear hr hk hB hdl hdb hm
  go_enter Tryd.func15, Tryd.ntmps15
  go_wp2_with (refine step_box rfl rfl ?_)
  intro w1 g1 hg1 hle1 hb1
  have HG := hide hg1
  clear hg1
  go_wp2_with (refine step_loadA wD rfl rfl HG.out HL.out ?_)
  refine (HA.out _ hb1).mono ?_
  rintro r w2 ⟨v', rfl, hr2, hc2, hn2⟩
  rw [Nat.pow_zero, Nat.div_one] at hr2
  have R2 := hide hr2
  clear hr2
  go_wp2
  go_ret
  exact ⟨v', rfl, R2.out, ((Chs.refl _ _).thenBelow hb1).trans hc2, fun k hk => (hn2 k hk).imp id (fun h => Nat.le_trans hb1.size h)⟩

end Go.Proofs.YthgfbcndoedacaaDoor
