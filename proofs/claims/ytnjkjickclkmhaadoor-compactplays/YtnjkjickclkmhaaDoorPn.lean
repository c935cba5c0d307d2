/-
  The parts of a span, without a program: the greatest perfect subtrees from the left; how a part that is put behind joins the ones ahead.
-/
import Derived.Test.YtnjkjickclkmhaaDoorPlain
namespace Go.Proofs.YtnjkjickclkmhaaDoor
set_option linter.unusedVariables false

theorem pow_dvd_le {j k b : Nat} (h : 2 ^ k ∣ b) (hj : j ≤ k) : 2 ^ j ∣ b := Nat.dvd_trans (Nat.pow_dvd_pow 2 hj) h
theorem pow_le_le {j k n : Nat} (h : 2 ^ k ≤ n) (hj : j ≤ k) : 2 ^ j ≤ n := Nat.le_trans (Nat.pow_le_pow_right (by omega) hj) h

/-- The greatest level at which a perfect subtree begins at b and has at most n leaves. -/
structure IsLev (b n k : Nat) : Prop where
  dvd : 2 ^ k ∣ b
  le : 2 ^ k ≤ n
  top : ¬ (2 ^ (k + 1) ∣ b ∧ 2 ^ (k + 1) ≤ n)
theorem IsLev.uniq {b n j k : Nat} (h : IsLev b n j) (h' : IsLev b n k) : j = k := by
  rcases Nat.lt_trichotomy j k with hl | he | hl
  · exact absurd ⟨pow_dvd_le h'.dvd hl, pow_le_le h'.le hl⟩ h.top
  · exact he
  · exact absurd ⟨pow_dvd_le h.dvd hl, pow_le_le h.le hl⟩ h'.top
/-- Climbing. -/
def lvUp (b n : Nat) : Nat → Nat → Nat
  | 0, k => k
  | f + 1, k => if 2 ^ (k + 1) ∣ b ∧ 2 ^ (k + 1) ≤ n then lvUp b n f (k + 1) else k
theorem lvUp_isLev (b n : Nat) : ∀ f k, 2 ^ k ∣ b → 2 ^ k ≤ n → n < 2 ^ (k + f + 1) → IsLev b n (lvUp b n f k)
  | 0, k, h1, h2, h3 => ⟨h1, h2, fun h => by have := h.2; rw [Nat.add_zero] at h3; show False; unfold lvUp at this; omega⟩
  | f + 1, k, h1, h2, h3 => by
    unfold lvUp
    by_cases h : 2 ^ (k + 1) ∣ b ∧ 2 ^ (k + 1) ≤ n
    · rw [if_pos h]
      exact lvUp_isLev b n f (k + 1) h.1 h.2 (by rw [show k + 1 + f + 1 = k + (f + 1) + 1 by omega]; exact h3)
    · rw [if_neg h]
      exact ⟨h1, h2, h⟩
def lv (b n : Nat) : Nat := lvUp b n 48 0
theorem lv_isLev {b n : Nat} (h0 : 0 < n) (h : n ≤ 2 ^ 48) : IsLev b n (lv b n) :=
  lvUp_isLev b n 48 0 (by simp) (by rw [Nat.pow_zero]; exact h0) (Nat.lt_of_le_of_lt h (by decide))
theorem lv_eq {b n k : Nat} (h : IsLev b n k) (h0 : n ≤ 2 ^ 48) : lv b n = k := (lv_isLev (Nat.lt_of_lt_of_le (Nat.two_pow_pos k) h.le) h0).uniq h

/-- The parts of a span: levels and indices. -/
def pts : Nat → Nat → Nat → List (Nat × Nat)
  | 0, _, _ => []
  | f + 1, b, e => if b < e then (lv b (e - b), b / 2 ^ lv b (e - b)) :: pts f (b + 2 ^ lv b (e - b)) e else []
def parts (b e : Nat) : List (Nat × Nat) := pts (e - b) b e
theorem pts_nil (f b e : Nat) (h : e ≤ b) : pts f b e = [] := by
  cases f with
  | zero => rfl
  | succ f => rw [pts, if_neg (by omega)]
theorem pts_fuel : ∀ f g b e, e - b ≤ f → e - b ≤ g → pts f b e = pts g b e
  | 0, g, b, e, h, _ => by rw [pts_nil g b e (by omega)]; rfl
  | f + 1, 0, b, e, _, h => by rw [pts_nil (f + 1) b e (by omega)]; rfl
  | f + 1, g + 1, b, e, hf, hg => by
    unfold pts
    by_cases h : b < e
    · rw [if_pos h, if_pos h, pts_fuel f g]
      all_goals have := Nat.two_pow_pos (lv b (e - b)); omega
    · rw [if_neg h, if_neg h]
theorem parts_nil {b e : Nat} (h : e ≤ b) : parts b e = [] := pts_nil _ _ _ h
theorem parts_cons {b e : Nat} (h : b < e) : parts b e = (lv b (e - b), b / 2 ^ lv b (e - b)) :: parts (b + 2 ^ lv b (e - b)) e := by
  unfold parts
  obtain ⟨f, hf⟩ : ∃ f, e - b = f + 1 := ⟨e - b - 1, by omega⟩
  have hp := Nat.two_pow_pos (lv b (e - b))
  rw [hf]
  rw [hf] at hp
  rw [pts, if_pos h, hf]
  congr 1
  exact pts_fuel _ _ _ _ (by omega) (Nat.le_refl _)
theorem parts_step {b e k : Nat} (h : IsLev b (e - b) k) (he : e ≤ 2 ^ 48) : parts b e = (k, b / 2 ^ k) :: parts (b + 2 ^ k) e := by
  have h1 := h.le
  have h2 := Nat.two_pow_pos k
  rw [parts_cons (by omega), lv_eq h (by omega)]
/-- One whole part. -/
theorem parts_one {b k : Nat} (h : 2 ^ k ∣ b) (he : b + 2 ^ k ≤ 2 ^ 48) : parts b (b + 2 ^ k) = [(k, b / 2 ^ k)] := by
  rw [parts_step (k := k) ⟨h, by omega, fun h => by have h1 := h.2; rw [Nat.pow_succ] at h1; have := Nat.two_pow_pos k; omega⟩ he, parts_nil (Nat.le_refl _)]

/-- Are q and p the halves of one subtree? -/
def sib (q p : Nat × Nat) : Bool := q.1 == p.1 && (q.2 % 2 == 0 && p.2 == q.2 + 1)
theorem sib_iff {q p : Nat × Nat} : sib q p = true ↔ q.1 = p.1 ∧ q.2 % 2 = 0 ∧ p.2 = q.2 + 1 := by simp [sib]
/-- A part with its digest. -/
abbrev Pt := (Nat × Nat) × List Int
/-- A part is put upon the ones ahead (the last one first), and joined with them. -/
def putS (nd : List Int → List Int → List Int) : List Pt → Pt → List Pt
  | [], p => [p]
  | q :: st, p => if sib q.1 p.1 then putS nd st ((p.1.1 + 1, p.1.2 / 2), nd q.2 p.2) else p :: q :: st
/-- The same without digests. -/
def colS : List (Nat × Nat) → Nat × Nat → List (Nat × Nat)
  | [], p => [p]
  | q :: st, p => if sib q p then colS st (p.1 + 1, p.2 / 2) else p :: q :: st
theorem putS_nodes (nd : List Int → List Int → List Int) : ∀ (st : List Pt) (p : Pt), (putS nd st p).map Prod.fst = colS (st.map Prod.fst) p.1
  | [], p => rfl
  | q :: st, p => by
    simp only [putS, colS, List.map_cons]
    by_cases h : sib q.1 p.1 = true
    · rw [if_pos h, if_pos h, putS_nodes nd st]
    · rw [if_neg h, if_neg h]; rfl
/-- Where the digests are told by the nodes. -/
theorem putS_told (nd : List Int → List Int → List Int) (f : Nat × Nat → List Int) (S : Nat × Nat → Nat × Nat → Prop)
    (hf : ∀ q p, S q p → sib q p = true → f (p.1 + 1, p.2 / 2) = nd (f q) (f p)) (hS : ∀ r q p, S q p → S r q → sib q p = true → S r (p.1 + 1, p.2 / 2)) :
    ∀ (st : List (Nat × Nat)) (p : Nat × Nat), (∀ q, st.head? = some q → S q p) → (∀ i q r, st[i]? = some q → st[i + 1]? = some r → S r q) →
      putS nd (st.map fun n => (n, f n)) (p, f p) = (colS st p).map fun n => (n, f n)
  | [], p, _, _ => rfl
  | q :: st, p, h1, h2 => by
    simp only [putS, colS, List.map_cons]
    by_cases h : sib q p = true
    · rw [if_pos h, if_pos h, ← hf q p (h1 q rfl) h]
      refine putS_told nd f S hf hS st _ (fun r hr => hS r q p (h1 q rfl) (h2 0 q r rfl ?_) h) (fun i q' r ha hb => h2 (i + 1) q' r (by simpa using ha) (by simpa using hb))
      cases st with
      | nil => simp at hr
      | cons s st => simpa using hr
    · rw [if_neg h, if_neg h]; rfl
theorem colS_snoc (q0 : Nat × Nat) : ∀ (st : List (Nat × Nat)) (p : Nat × Nat),
    colS (st ++ [q0]) p = match colS st p with
      | [r] => if sib q0 r then [(r.1 + 1, r.2 / 2)] else [r, q0]
      | t => t ++ [q0]
  | [], p => by
    simp only [colS, List.nil_append]
  | q :: st, p => by
    simp only [colS, List.cons_append]
    by_cases h : sib q p = true
    · rw [if_pos h, if_pos h, colS_snoc q0 st]
    · rw [if_neg h, if_neg h]; rfl
theorem colS_ne (st : List (Nat × Nat)) (p : Nat × Nat) : colS st p ≠ [] := by
  induction st generalizing p with
  | nil => simp [colS]
  | cons q st ih =>
    unfold colS
    split
    · exact ih _
    · simp

theorem dvd_room {d a b : Nat} (ha : d ∣ a) (hb : d ∣ b) (h : a < b) : a + d ≤ b := by
  have := Nat.le_of_dvd (by omega) (Nat.dvd_sub hb ha)
  omega
theorem half_up (b k : Nat) (h : 2 ^ (k + 1) ∣ b) : (b / 2 ^ k) % 2 = 0 ∧ (b + 2 ^ k) / 2 ^ k = b / 2 ^ k + 1 ∧ (b / 2 ^ k + 1) / 2 = b / 2 ^ (k + 1) := by
  obtain ⟨c, rfl⟩ := h
  have hp := Nat.two_pow_pos k
  have e : 2 ^ (k + 1) * c = 2 ^ k * (2 * c) := by rw [Nat.pow_succ, Nat.mul_assoc]
  have e1 : 2 ^ (k + 1) * c / 2 ^ k = 2 * c := by rw [e, Nat.mul_div_cancel_left _ hp]
  have e2 : 2 ^ (k + 1) * c / 2 ^ (k + 1) = c := Nat.mul_div_cancel_left _ (Nat.two_pow_pos _)
  rw [Nat.add_div_right _ hp, e1, e2]
  omega
/-- THE LAW OF THE PARTS: a perfect subtree put behind a span. -/
theorem parts_put (n b e L : Nat) (hn : e - b ≤ n) (hbe : b ≤ e) (hd : 2 ^ L ∣ e) (hm : e + 2 ^ L ≤ 2 ^ 48) : (colS (parts b e).reverse (L, e / 2 ^ L)).reverse = parts b (e + 2 ^ L) := by
  induction n generalizing b with
  | zero =>
    obtain rfl : b = e := by omega
    rw [parts_nil (Nat.le_refl _), parts_one hd hm]
    rfl
  | succ n ihn =>
    by_cases hlt : b < e
    · have hp := Nat.two_pow_pos L
      have hk := lv_isLev (b := b) (n := e - b) (by omega) (by omega)
      have hk' := lv_isLev (b := b) (n := e + 2 ^ L - b) (by omega) (by omega)
      have hpk := Nat.two_pow_pos (lv b (e - b))
      have hkle := hk.le
      rw [parts_cons hlt]
      rw [parts_step hk' hm]
      generalize lv b (e - b) = k at *
      generalize lv b (e + 2 ^ L - b) = k' at *
      have ih := ihn (b + 2 ^ k) (by omega) (by omega)
      rw [List.reverse_cons, colS_snoc]
      have hkk : k ≤ k' := by
        apply Nat.le_of_not_lt
        intro hl
        exact hk'.top ⟨pow_dvd_le hk.dvd hl, by have := pow_le_le hk.le hl; omega⟩
      by_cases hkk' : k = k'
      · subst hkk'
        split
        · rename_i r hr
          rw [hr] at ih
          have hns : ¬ sib (k, b / 2 ^ k) r = true := by
            intro hs
            obtain ⟨h1, h2, h3⟩ := sib_iff.1 hs
            simp only at h1 h2 h3
            have hlt2 : b + 2 ^ k < e + 2 ^ L := by omega
            have hj := lv_isLev (b := b + 2 ^ k) (n := e + 2 ^ L - (b + 2 ^ k)) (by omega) (by omega)
            rw [parts_step hj hm] at ih
            generalize lv (b + 2 ^ k) (e + 2 ^ L - (b + 2 ^ k)) = j at *
            rw [List.reverse_singleton] at ih
            injection ih with i1 i2
            have hjk : j = k := by rw [i1] at h1; exact h1.symm
            subst hjk
            have hend : e + 2 ^ L ≤ b + 2 ^ j + 2 ^ j := by
              apply Nat.le_of_not_lt
              intro hl
              have hp2 := parts_cons hl
              rw [hp2] at i2
              cases i2
            refine hk'.top ⟨?_, ?_⟩
            · obtain ⟨c, hc⟩ := hk.dvd
              rw [hc, Nat.mul_div_cancel_left _ hpk] at h2
              exact ⟨c / 2, by rw [hc, Nat.pow_succ, Nat.mul_assoc]; congr 1; omega⟩
            · have hjl := hj.le
              rw [Nat.pow_succ]
              omega
          rw [if_neg hns, ← ih]
          rfl
        · rw [← ih]
          simp
      · have hlt' : k + 1 ≤ k' := by omega
        have hdk : 2 ^ (k + 1) ∣ b := pow_dvd_le hk'.dvd hlt'
        have hke : e < b + 2 ^ (k + 1) := by
          apply Nat.lt_of_not_le
          intro hl
          exact hk.top ⟨hdk, by omega⟩
        have hLk : L ≤ k := by
          apply Nat.le_of_lt_succ
          apply Nat.lt_of_not_le
          intro hl
          have := dvd_room hdk (pow_dvd_le hd hl) hlt
          omega
        have hup : e + 2 ^ L ≤ b + 2 ^ (k + 1) := dvd_room hd (Nat.dvd_add (pow_dvd_le hdk (by omega)) (Nat.pow_dvd_pow 2 (by omega))) hke
        have hk'l := hk'.le
        have hk'g : 2 ^ (k + 1) ≤ 2 ^ k' := Nat.pow_le_pow_right (by omega) hlt'
        have hee : e + 2 ^ L = b + 2 ^ (k + 1) := by omega
        have hkeq : k' = k + 1 := by
          have : 2 ^ k' ≤ 2 ^ (k + 1) := by omega
          have := (Nat.pow_le_pow_iff_right (a := 2) (by omega)).1 this
          omega
        subst hkeq
        obtain ⟨u1, u2, u3⟩ := half_up b k hdk
        have hdk2 : 2 ^ k ∣ b + 2 ^ k := Nat.dvd_add hk.dvd (Nat.dvd_refl _)
        have e2 : b + 2 ^ (k + 1) = b + 2 ^ k + 2 ^ k := by rw [Nat.pow_succ]; omega
        rw [hee, e2, parts_one hdk2 (by omega)] at ih
        have hc : colS (parts (b + 2 ^ k) e).reverse (L, e / 2 ^ L) = [(k, (b + 2 ^ k) / 2 ^ k)] := by
          have := congrArg List.reverse ih
          simpa using this
        rw [hc]
        have hs : sib (k, b / 2 ^ k) (k, (b + 2 ^ k) / 2 ^ k) = true := sib_iff.2 ⟨rfl, u1, u2⟩
        simp only [hs, if_true]
        rw [hee, parts_nil (Nat.le_refl _), u2, u3]
        rfl
    · obtain rfl : b = e := by omega
      rw [parts_nil (Nat.le_refl _), parts_one hd hm]
      rfl

/-- How many parts there are. -/
theorem parts_fall (m : Nat) : ∀ (b e : Nat), 2 ^ m ∣ b → e < b + 2 ^ m → e ≤ 2 ^ 48 → (parts b e).length ≤ m := by
  induction m using Nat.strongRecOn with
  | ind m ih =>
    intro b e hd hl hm
    by_cases hlt : b < e
    · have hk := lv_isLev (b := b) (n := e - b) (by omega) (by omega)
      rw [parts_step hk hm]
      generalize lv b (e - b) = k at *
      have hkm : k < m := by
        apply Nat.lt_of_not_le
        intro h
        have h1 := pow_le_le hk.le h
        omega
      have hkl := hk.le
      have ht : e < b + 2 ^ (k + 1) := by
        apply Nat.lt_of_not_le
        intro h
        exact hk.top ⟨pow_dvd_le hd hkm, by omega⟩
      have e2 : b + 2 ^ (k + 1) = b + 2 ^ k + 2 ^ k := by rw [Nat.pow_succ]; omega
      have := ih k hkm (b + 2 ^ k) e (Nat.dvd_add hk.dvd (Nat.dvd_refl _)) (by omega) hm
      rw [List.length_cons]
      omega
    · rw [parts_nil (by omega)]; simp
theorem lev_le {b n k : Nat} (h : IsLev b n k) (hn : n ≤ 2 ^ 48) : k ≤ 48 := by
  apply Nat.le_of_not_lt
  intro hl
  have := pow_le_le h.le (show 49 ≤ k from hl)
  omega
theorem parts_len (n : Nat) : ∀ (k b e : Nat), k + n = 49 → 2 ^ k ∣ b → e ≤ 2 ^ 48 → (parts b e).length ≤ n + 49 := by
  induction n using Nat.strongRecOn with
  | ind n ih =>
    intro k b e hkn hd hm
    by_cases hlt : b < e
    · have hj := lv_isLev (b := b) (n := e - b) (by omega) (by omega)
      rw [parts_step hj hm]
      generalize lv b (e - b) = j at *
      have hj48 := lev_le hj (by omega)
      have hjl := hj.le
      rw [List.length_cons]
      by_cases hs : 2 ^ (j + 1) ∣ b
      · have ht : e < b + 2 ^ (j + 1) := by
          apply Nat.lt_of_not_le
          intro h
          exact hj.top ⟨hs, by omega⟩
        have e2 : b + 2 ^ (j + 1) = b + 2 ^ j + 2 ^ j := by rw [Nat.pow_succ]; omega
        have := parts_fall j (b + 2 ^ j) e (Nat.dvd_add hj.dvd (Nat.dvd_refl _)) (by omega) hm
        omega
      · have hkj : k ≤ j := by
          apply Nat.le_of_not_lt
          intro hl
          exact hs (pow_dvd_le hd hl)
        have hd2 : 2 ^ (j + 1) ∣ b + 2 ^ j := by
          obtain ⟨c, hc⟩ := hj.dvd
          have hco : c % 2 = 1 := by
            apply Classical.byContradiction
            intro h
            exact hs ⟨c / 2, by rw [hc, Nat.pow_succ, Nat.mul_assoc]; congr 1; omega⟩
          refine ⟨(c + 1) / 2, ?_⟩
          rw [hc, Nat.pow_succ, Nat.mul_assoc, ← Nat.mul_succ]
          congr 1
          omega
        have := ih (49 - (j + 1)) (by omega) (j + 1) (b + 2 ^ j) e (by omega) hd2 hm
        omega
    · rw [parts_nil (by omega)]; simp
theorem parts_98 (b e : Nat) (h : e ≤ 2 ^ 48) : (parts b e).length ≤ 98 := parts_len 49 0 b e rfl (by simp) h

end Go.Proofs.YtnjkjickclkmhaaDoor
