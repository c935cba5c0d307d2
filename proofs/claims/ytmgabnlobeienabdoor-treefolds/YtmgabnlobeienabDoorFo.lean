/-
  From a leaf and its proof, digest by digest, to the root. No program here but the digest.
-/
import Derived.Test.YtmgabnlobeienabDoorIc
namespace Go.Proofs.YtmgabnlobeienabDoor
open Go.RowKit
set_option linter.unusedVariables false

/-- One digest put on its side. -/
def comb (l : Bool) (f d : List Int) : List Int := if l = true then nd d f else nd f d
theorem comb_length (l : Bool) (f d : List Int) : (comb l f d).length = 32 := by
  unfold comb; split <;> exact nd_length _ _
theorem comb_isB (l : Bool) (f d : List Int) : isB (comb l f d) := by
  unfold comb; split <;> exact nd_isB _ _
/-- All of them, the outermost listed first. -/
def up : List (Bool × List Int) → List Int → List Int
  | [], d => d
  | p :: r, d => comb p.1 p.2 (up r d)
theorem up_snoc : ∀ (st : List (Bool × List Int)) (l : Bool) (f d : List Int), up (st ++ [(l, f)]) d = up st (comb l f d)
  | [], _, _, _ => rfl
  | p :: r, l, f, d => by
    show comb p.1 p.2 (up (r ++ [(l, f)]) d) = comb p.1 p.2 (up r (comb l f d))
    rw [up_snoc r l f d]
theorem up_bd : ∀ (st : List (Bool × List Int)) (d : List Int), d.length = 32 → isB d → (up st d).length = 32 ∧ isB (up st d)
  | [], d, h, hb => ⟨h, hb⟩
  | p :: r, d, h, hb => ⟨comb_length _ _ _, comb_isB _ _ _⟩
/-- The digests that lie beside the way, the innermost first. -/
def beside (st : List (Bool × List Int)) : List Int := (st.reverse.map (·.2)).flatten
def Each (st : List (Bool × List Int)) : Prop := ∀ p ∈ st, p.2.length = 32 ∧ isB p.2
theorem beside_snoc (st : List (Bool × List Int)) (l : Bool) (f : List Int) : beside (st ++ [(l, f)]) = f ++ beside st := by simp [beside]
theorem flat32 : ∀ (ls : List (List Int)), (∀ l ∈ ls, l.length = 32) → ls.flatten.length = 32 * ls.length ∧ ∀ k (h : k < ls.length), dat ls.flatten k = ls[k]
  | [], _ => ⟨rfl, fun k h => absurd h (by simp)⟩
  | x :: r, h => by
    obtain ⟨h1, h2⟩ := flat32 r (fun l hl => h l (by simp [hl]))
    have hx := h x (by simp)
    refine ⟨by rw [List.flatten_cons, List.length_append, h1, hx, List.length_cons]; omega, fun k hk => ?_⟩
    cases k with
    | zero =>
      rw [dat, List.flatten_cons, Nat.mul_zero, List.drop_zero, List.take_append_of_le_length (by omega), List.take_of_length_le (by omega)]
      rfl
    | succ k =>
      have := h2 k (by simpa using hk)
      rw [List.getElem_cons_succ, ← this, dat, List.flatten_cons, dat]
      rw [show 32 * (k + 1) = x.length + 32 * k by omega, ← List.drop_drop, List.drop_left]
theorem beside_length (st : List (Bool × List Int)) (h : Each st) : (beside st).length = 32 * st.length := by
  have := (flat32 (st.reverse.map (·.2)) (by intro l hl; obtain ⟨p, hp, rfl⟩ := List.mem_map.1 hl; exact (h p (List.mem_reverse.1 hp)).1)).1
  simpa [beside] using this
theorem beside_at (st : List (Bool × List Int)) (h : Each st) (k : Nat) (hk : k < st.length) : dat (beside st) k = (st.getD (st.length - 1 - k) (false, [])).2 := by
  have := (flat32 (st.reverse.map (·.2)) (by intro l hl; obtain ⟨p, hp, rfl⟩ := List.mem_map.1 hl; exact (h p (List.mem_reverse.1 hp)).1)).2 k (by simpa using hk)
  rw [beside, this]
  simp [List.getElem_reverse, List.getD, List.getElem?_eq_getElem (show st.length - 1 - k < st.length by omega)]
theorem up_step (st : List (Bool × List Int)) (d : List Int) (k : Nat) (hk : k < st.length) :
    up (st.drop (st.length - (k + 1))) d = comb (st.getD (st.length - 1 - k) (false, [])).1 (st.getD (st.length - 1 - k) (false, [])).2 (up (st.drop (st.length - k)) d) := by
  have hlt : st.length - (k + 1) < st.length := by omega
  rw [List.drop_eq_getElem_cons hlt, show st.length - (k + 1) + 1 = st.length - k by omega]
  have e : st.length - 1 - k = st.length - (k + 1) := by omega
  rw [e]
  simp [List.getD, List.getElem?_eq_getElem hlt, up]

/-- A span on the way down to the leaf i: what was passed. -/
def Way (xs : List Int) (n i b e : Nat) (st : List (Bool × List Int)) : Prop :=
  b ≤ i ∧ i < e ∧ e ≤ n ∧ Each st ∧ up st (root (sub xs b e)) = root xs ∧ path xs i = path (sub xs b e) (i - b) ++ beside st
theorem Way.start {xs : List Int} {n i : Nat} (h : xs.length = 32 * n) (hi' : i < n) : Way xs n i 0 n [] := by
  have e : sub xs 0 n = xs := by unfold sub; rw [Nat.mul_zero, List.drop_zero, List.take_of_length_le (by omega)]
  refine ⟨by omega, hi', Nat.le_refl _, (fun p hp => by cases hp), ?_, ?_⟩
  · rw [e]; rfl
  · rw [e]; simp [beside]
theorem Way.low {xs : List Int} {n i b e : Nat} {st : List (Bool × List Int)} (h : Way xs n i b e st) (hx : xs.length = 32 * n) (hxb : isB xs) (hn : n < 2 ^ 63) (h2 : 2 ≤ e - b) (hlt : i < b + hf (e - b)) :
    Way xs n i b (b + hf (e - b)) (st ++ [(true, root (sub xs (b + hf (e - b)) e))]) := by
  obtain ⟨h1, h3, h4, h5, h6, h7⟩ := h
  have hbd := hf_bd (e - b) h2 (by omega)
  have hsl := sub_length hx (show b ≤ e by omega) h4
  have hfl := sub_length hx (show b + hf (e - b) ≤ e by omega) h4
  refine ⟨h1, hlt, by omega, ?_, ?_, ?_⟩
  · intro p hp
    rcases List.mem_append.1 hp with hp | hp
    · exact h5 p hp
    · simp at hp; subst hp; exact ⟨root_length hfl (sub_isB hxb _ _), root_isB hfl (sub_isB hxb _ _)⟩
  · rw [up_snoc, ← h6, root_node hsl h2 (by omega), sub_lo hx (by omega) h4 h2 (by omega), sub_hi hx (by omega) h4 h2 (by omega)]
    rfl
  · rw [beside_snoc, h7, path_lo hsl h2 (by omega) (by omega), sub_lo hx (by omega) h4 h2 (by omega), sub_hi hx (by omega) h4 h2 (by omega), List.append_assoc]
theorem Way.high {xs : List Int} {n i b e : Nat} {st : List (Bool × List Int)} (h : Way xs n i b e st) (hx : xs.length = 32 * n) (hxb : isB xs) (hn : n < 2 ^ 63) (h2 : 2 ≤ e - b) (hle : b + hf (e - b) ≤ i) :
    Way xs n i (b + hf (e - b)) e (st ++ [(false, root (sub xs b (b + hf (e - b))))]) := by
  obtain ⟨h1, h3, h4, h5, h6, h7⟩ := h
  have hbd := hf_bd (e - b) h2 (by omega)
  have hsl := sub_length hx (show b ≤ e by omega) h4
  have hfl := sub_length hx (show b ≤ b + hf (e - b) by omega) (show b + hf (e - b) ≤ n by omega)
  refine ⟨hle, h3, h4, ?_, ?_, ?_⟩
  · intro p hp
    rcases List.mem_append.1 hp with hp | hp
    · exact h5 p hp
    · simp at hp; subst hp; exact ⟨root_length hfl (sub_isB hxb _ _), root_isB hfl (sub_isB hxb _ _)⟩
  · rw [up_snoc, ← h6, root_node hsl h2 (by omega), sub_lo hx (by omega) h4 h2 (by omega), sub_hi hx (by omega) h4 h2 (by omega)]
    rfl
  · rw [beside_snoc, h7, path_hi hsl h2 (by omega) (by omega), sub_lo hx (by omega) h4 h2 (by omega), sub_hi hx (by omega) h4 h2 (by omega), List.append_assoc, show i - b - hf (e - b) = i - (b + hf (e - b)) by omega]
theorem Way.last {xs : List Int} {n i b e : Nat} {st : List (Bool × List Int)} (h : Way xs n i b e st) (hx : xs.length = 32 * n) (h1 : e - b ≤ 1) : path xs i = beside st ∧ up st (dat xs i) = root xs := by
  obtain ⟨g1, g3, g4, g5, g6, g7⟩ := h
  obtain rfl : b = i := by omega
  obtain rfl : e = b + 1 := by omega
  have hl : (sub xs b (b + 1)).length = 32 := by rw [sub_length hx (by omega) g4]; omega
  have e2 : sub xs b (b + 1) = dat xs b := by simp [sub, dat]
  rw [path_one hl] at g7
  rw [root_one hl, e2] at g6
  exact ⟨by simpa using g7, g6⟩

end Go.Proofs.YtmgabnlobeienabDoor
