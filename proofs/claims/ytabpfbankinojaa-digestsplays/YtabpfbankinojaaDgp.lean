/-
  Digests by their bytes, sorted runs that are merged: without any program.
-/
import Derived.Test.YtabpfbankinojaaPlain
namespace Go.Proofs.Ytabpfbankinojaa
set_option linter.unusedVariables false

/-! ### the order of digests -/
/-- The bytes as a number. -/
def kD (x : List Int) : Nat := x.foldl (fun n b => 256 * n + b.toNat) 0
theorem kD_fold (x : List Int) : ∀ n, x.foldl (fun n (b : Int) => 256 * n + b.toNat) n = n * 256 ^ x.length + kD x := by
  induction x with
  | nil => intro n; simp [kD]
  | cons a t ih =>
    intro n
    unfold kD
    simp only [List.foldl_cons, List.length_cons]
    rw [ih, ih (256 * 0 + a.toNat), Nat.mul_zero, Nat.zero_add, Nat.pow_succ, Nat.add_mul, Nat.add_assoc]
    congr 1
    rw [Nat.mul_comm 256 n, Nat.mul_assoc, Nat.mul_comm (256 ^ t.length) 256]
theorem kD_nil : kD [] = 0 := rfl
theorem kD_cons (a : Int) (t : List Int) : kD (a :: t) = a.toNat * 256 ^ t.length + kD t := by
  unfold kD
  simp only [List.foldl_cons]
  rw [kD_fold, Nat.mul_zero, Nat.zero_add]
  rfl
theorem kD_lt : ∀ {x : List Int}, isB x → kD x < 256 ^ x.length
  | [], _ => by simp [kD]
  | a :: t, h => by
    rw [kD_cons, List.length_cons, Nat.pow_succ]
    have h1 := kD_lt (x := t) (fun y hy => h y (List.mem_cons_of_mem _ hy))
    have h2 := h a (List.mem_cons_self ..)
    have h3 : a.toNat ≤ 255 := by omega
    have h4 := Nat.mul_le_mul_right (256 ^ t.length) h3
    rw [Nat.mul_comm (256 ^ t.length) 256]
    omega
/-- The first byte in which they are unlike decides. -/
theorem kD_first : ∀ {x y : List Int} {i : Nat}, isB x → isB y → x.length = y.length → i < x.length → x.take i = y.take i → x.getD i 0 < y.getD i 0 → kD x < kD y
  | [], _, i, _, _, _, hi, _, _ => absurd hi (Nat.not_lt_zero i)
  | a :: t, [], _, _, _, hl, _, _, _ => by simp at hl
  | a :: t, b :: u, 0, hx, hy, hl, hi, ht, h => by
    rw [kD_cons, kD_cons]
    have h1 := kD_lt (x := t) (fun y hy => hx y (List.mem_cons_of_mem _ hy))
    have hla : t.length = u.length := by simpa using hl
    have ha := hx a (List.mem_cons_self ..)
    have hb := hy b (List.mem_cons_self ..)
    have h2 : a < b := by simpa using h
    have h3 : a.toNat + 1 ≤ b.toNat := by omega
    have h4 := Nat.mul_le_mul_right (256 ^ t.length) h3
    rw [Nat.add_mul, Nat.one_mul] at h4
    rw [← hla]
    omega
  | a :: t, b :: u, i + 1, hx, hy, hl, hi, ht, h => by
    rw [kD_cons, kD_cons]
    have hla : t.length = u.length := by simpa using hl
    simp only [List.take_succ_cons, List.cons.injEq] at ht
    have h1 := kD_first (x := t) (y := u) (i := i) (fun y hy => hx y (List.mem_cons_of_mem _ hy)) (fun z hz => hy z (List.mem_cons_of_mem _ hz)) hla (by simpa using hi) ht.2 (by simpa using h)
    rw [ht.1, hla]
    omega
theorem kD_inj : ∀ {x y : List Int}, isB x → isB y → x.length = y.length → kD x = kD y → x = y
  | [], [], _, _, _, _ => rfl
  | [], _ :: _, _, _, hl, _ => by simp at hl
  | _ :: _, [], _, _, hl, _ => by simp at hl
  | a :: t, b :: u, hx, hy, hl, h => by
    have hla : t.length = u.length := by simpa using hl
    have ha := hx a (List.mem_cons_self ..)
    have hb := hy b (List.mem_cons_self ..)
    have hxt : isB t := fun y hy => hx y (List.mem_cons_of_mem _ hy)
    have hyt : isB u := fun z hz => hy z (List.mem_cons_of_mem _ hz)
    have h1 := kD_lt hxt
    have h2 := kD_lt hyt
    rw [kD_cons, kD_cons, ← hla] at h
    rw [← hla] at h2
    have hab : a.toNat = b.toNat := by
      rcases Nat.lt_trichotomy a.toNat b.toNat with h3 | h3 | h3
      · have h4 := Nat.mul_le_mul_right (256 ^ t.length) (show a.toNat + 1 ≤ b.toNat by omega)
        rw [Nat.add_mul, Nat.one_mul] at h4
        omega
      · exact h3
      · have h4 := Nat.mul_le_mul_right (256 ^ t.length) (show b.toNat + 1 ≤ a.toNat by omega)
        rw [Nat.add_mul, Nat.one_mul] at h4
        omega
    rw [hab] at h
    rw [show a = b by omega, kD_inj hxt hyt hla (by omega)]

/-! ### sorted lists -/
section
variable {α : Type} (key : α → Nat)
def SK (l : List α) : Prop := l.Pairwise fun a b => key a < key b
variable {key}
theorem SK.nil : SK key ([] : List α) := List.Pairwise.nil
/-- Two rising lists with the same members are one. -/
theorem SK.ext : ∀ {l l' : List α}, SK key l → SK key l' → (∀ x, x ∈ l ↔ x ∈ l') → l = l'
  | [], [], _, _, _ => rfl
  | [], b :: u, _, _, h => by have := (h b).2 (List.mem_cons_self ..); cases this
  | a :: t, [], _, _, h => by have := (h a).1 (List.mem_cons_self ..); cases this
  | a :: t, b :: u, hl, hl', h => by
    have p1 := List.pairwise_cons.1 hl
    have p2 := List.pairwise_cons.1 hl'
    have hab : a = b := by
      rcases List.mem_cons.1 ((h a).1 (List.mem_cons_self ..)) with e | e
      · exact e
      · rcases List.mem_cons.1 ((h b).2 (List.mem_cons_self ..)) with e2 | e2
        · exact e2.symm
        · have h1 := p2.1 a e
          have h2 := p1.1 b e2
          omega
    subst hab
    rw [SK.ext p1.2 p2.2 fun x => ?_]
    have hx := h x
    simp only [List.mem_cons] at hx
    constructor
    · intro hm
      rcases hx.1 (.inr hm) with e | e
      · subst e; have := p1.1 x hm; omega
      · exact e
    · intro hm
      rcases hx.2 (.inr hm) with e | e
      · subst e; have := p2.1 x hm; omega
      · exact e
theorem SK.take {l : List α} (h : SK key l) (n : Nat) : SK key (l.take n) := List.Pairwise.sublist (List.take_sublist n l) h
theorem SK.drop {l : List α} (h : SK key l) (n : Nat) : SK key (l.drop n) := List.Pairwise.sublist (List.drop_sublist n l) h
theorem SK.snoc {l : List α} (h : SK key l) {x : α} (hx : ∀ y ∈ l, key y < key x) : SK key (l ++ [x]) := by
  refine List.pairwise_append.2 ⟨h, List.pairwise_singleton .., fun a ha b hb => ?_⟩
  simp at hb
  subst hb
  exact hx a ha
theorem SK.lt {l : List α} (h : SK key l) {i j : Nat} (hij : i < j) {a b : α} (ha : l[i]? = some a) (hb : l[j]? = some b) : key a < key b := by
  obtain ⟨h1, rfl⟩ := List.getElem?_eq_some_iff.1 ha
  obtain ⟨h2, rfl⟩ := List.getElem?_eq_some_iff.1 hb
  exact (List.pairwise_iff_getElem.1 h) i j h1 h2 hij
/-- One more, where it belongs. -/
def insK (key : α → Nat) (x : α) : List α → List α
  | [] => [x]
  | a :: t => if key a < key x then a :: insK key x t else x :: a :: t
theorem insK_mem (x : α) : ∀ (l : List α) (y : α), y ∈ insK key x l ↔ y = x ∨ y ∈ l
  | [], y => by simp [insK]
  | a :: t, y => by
    unfold insK
    split
    · rw [List.mem_cons, insK_mem x t y, List.mem_cons]
      constructor
      · rintro (h | h | h)
        · exact .inr (.inl h)
        · exact .inl h
        · exact .inr (.inr h)
      · rintro (h | h | h)
        · exact .inr (.inl h)
        · exact .inl h
        · exact .inr (.inr h)
    · rw [List.mem_cons]
theorem insK_len (x : α) : ∀ l : List α, (insK key x l).length = l.length + 1
  | [] => rfl
  | a :: t => by
    unfold insK
    split
    · rw [List.length_cons, insK_len x t, List.length_cons]
    · rfl
theorem insK_SK (x : α) : ∀ {l : List α}, SK key l → (∀ y ∈ l, key y ≠ key x) → SK key (insK key x l)
  | [], _, _ => List.pairwise_singleton ..
  | a :: t, h, hn => by
    have p := List.pairwise_cons.1 h
    unfold insK
    split
    · rename_i hlt
      refine List.pairwise_cons.2 ⟨fun y hy => ?_, insK_SK x p.2 (fun y hy => hn y (List.mem_cons_of_mem _ hy))⟩
      rcases (insK_mem x t y).1 hy with e | e
      · rw [e]; exact hlt
      · exact p.1 y e
    · rename_i hlt
      have hne := hn a (List.mem_cons_self ..)
      refine List.pairwise_cons.2 ⟨fun y hy => ?_, h⟩
      rcases List.mem_cons.1 hy with e | e
      · rw [e]; omega
      · have := p.1 y e; omega
/-- Where it belongs: behind all that are below it. -/
theorem insK_at (x : α) : ∀ {l : List α} {k : Nat}, (∀ i a, i < k → l[i]? = some a → key a < key x) → (∀ a, l[k]? = some a → ¬ key a < key x) → k ≤ l.length → insK key x l = l.take k ++ x :: l.drop k
  | [], k, _, _, hk => by simp [insK]
  | a :: t, 0, _, h2, _ => by
    unfold insK
    rw [if_neg (h2 a rfl)]
    rfl
  | a :: t, k + 1, h1, h2, hk => by
    unfold insK
    rw [if_pos (h1 0 a (by omega) rfl), insK_at x (l := t) (k := k) (fun i b hi hb => h1 (i + 1) b (by omega) hb) (fun b hb => h2 b hb) (by simpa using hk)]
    rfl
def srtK (key : α → Nat) (l : List α) : List α := l.foldr (insK key) []
theorem srtK_mem (l : List α) (y : α) : y ∈ srtK key l ↔ y ∈ l := by
  induction l with
  | nil => rfl
  | cons a t ih =>
    show y ∈ insK key a (srtK key t) ↔ _
    rw [insK_mem, ih, List.mem_cons]
theorem srtK_len (l : List α) : (srtK key l).length = l.length := by
  induction l with
  | nil => rfl
  | cons a t ih =>
    show (insK key a (srtK key t)).length = _
    rw [insK_len, ih, List.length_cons]
theorem srtK_SK {l : List α} (h : l.Pairwise fun a b => key a ≠ key b) : SK key (srtK key l) := by
  induction l with
  | nil => exact SK.nil
  | cons a t ih =>
    have p := List.pairwise_cons.1 h
    exact insK_SK a (ih p.2) (fun y hy => (p.1 y ((srtK_mem t y).1 hy)).symm)

/-! ### runs, the newest first -/
def pushL (key : α → Nat) : List (List α) → List α → List (List α)
  | [], r => [r]
  | h :: t, r => if h.length = r.length then pushL key t (srtK key (h ++ r)) else r :: h :: t
end
def pushN : List Nat → Nat → List Nat
  | [], m => [m]
  | h :: t, m => if h = m then pushN t (2 * m) else m :: h :: t
section
variable {α : Type} {key : α → Nat}
theorem pushL_len : ∀ (t : List (List α)) (r : List α), (pushL key t r).map List.length = pushN (t.map List.length) r.length
  | [], r => rfl
  | h :: t, r => by
    unfold pushL pushN
    rw [List.map_cons]
    simp only
    by_cases e : h.length = r.length
    · rw [if_pos e, if_pos e, pushL_len t, srtK_len, List.length_append, show h.length + r.length = 2 * r.length by omega]
    · rw [if_neg e, if_neg e]
      rfl
theorem pushL_mem : ∀ (t : List (List α)) (r : List α) (y : α), (∃ q ∈ pushL key t r, y ∈ q) ↔ y ∈ r ∨ ∃ q ∈ t, y ∈ q
  | [], r, y => by simp [pushL]
  | h :: t, r, y => by
    unfold pushL
    split
    · rw [pushL_mem t, srtK_mem, List.mem_append]
      simp only [List.mem_cons, exists_eq_or_imp]
      constructor
      · rintro ((e | e) | e)
        · exact .inr (.inl e)
        · exact .inl e
        · exact .inr (.inr e)
      · rintro (e | e | e)
        · exact .inl (.inr e)
        · exact .inl (.inl e)
        · exact .inr e
    · simp only [List.mem_cons, exists_eq_or_imp]
/-- All keys of all runs are unlike, and each run rises. -/
def RunsOk (key : α → Nat) (t : List (List α)) : Prop := (∀ q ∈ t, SK key q) ∧ t.Pairwise fun p q => ∀ a ∈ p, ∀ b ∈ q, key a ≠ key b
theorem RunsOk.nil : RunsOk key ([] : List (List α)) := ⟨fun q h => (by cases h), List.Pairwise.nil⟩
theorem pushL_ok : ∀ {t : List (List α)} {r : List α}, RunsOk key t → SK key r → (∀ q ∈ t, ∀ a ∈ r, ∀ b ∈ q, key a ≠ key b) → RunsOk key (pushL key t r)
  | [], r, _, hr, _ => ⟨fun q h => by simp [pushL] at h; rw [h]; exact hr, List.pairwise_singleton ..⟩
  | h :: t, r, ht, hr, hn => by
    have p := List.pairwise_cons.1 ht.2
    unfold pushL
    split
    · refine pushL_ok ⟨fun q hq => ht.1 q (List.mem_cons_of_mem _ hq), p.2⟩ (srtK_SK ?_) (fun q hq a ha b hb => ?_)
      · refine List.pairwise_append.2 ⟨(ht.1 h (List.mem_cons_self ..)).imp (fun h => Nat.ne_of_lt h), hr.imp (fun h => Nat.ne_of_lt h), fun a ha b hb => ?_⟩
        exact (hn h (List.mem_cons_self ..) b hb a ha).symm
      · rcases List.mem_append.1 ((srtK_mem _ a).1 ha) with e | e
        · exact p.1 q hq a e b hb
        · exact hn q (List.mem_cons_of_mem _ hq) a e b hb
    · refine ⟨fun q hq => ?_, List.pairwise_cons.2 ⟨fun q hq a ha b hb => hn q hq a ha b hb, ht.2⟩⟩
      rcases List.mem_cons.1 hq with e | e
      · rw [e]; exact hr
      · exact ht.1 q e
end
theorem pushN_sum : ∀ (t : List Nat) (m : Nat), (pushN t m).sum = m + t.sum
  | [], m => by simp [pushN]
  | h :: t, m => by
    unfold pushN
    split
    · rw [pushN_sum t, List.sum_cons]; omega
    · simp only [List.sum_cons]
/-- Powers of two, rising (the newest first). -/
def PowsUp (t : List Nat) : Prop := t.Pairwise (· < ·) ∧ ∀ x ∈ t, ∃ k, x = 2 ^ k
theorem PowsUp.nil : PowsUp [] := ⟨List.Pairwise.nil, fun x h => (by cases h)⟩
theorem pushN_ok : ∀ {t : List Nat} {m : Nat}, PowsUp t → (∃ k, m = 2 ^ k) → (∀ x ∈ t, m ≤ x) → PowsUp (pushN t m)
  | [], m, _, hm, _ => ⟨List.pairwise_singleton .., fun x h => by simp [pushN] at h; rw [h]; exact hm⟩
  | h :: t, m, ht, hm, hle => by
    have p := List.pairwise_cons.1 ht.1
    unfold pushN
    split
    · rename_i e
      subst e
      refine pushN_ok ⟨p.2, fun x hx => ht.2 x (List.mem_cons_of_mem _ hx)⟩ ?_ (fun x hx => ?_)
      · obtain ⟨k, hk⟩ := hm
        exact ⟨k + 1, by rw [hk, Nat.pow_succ]; omega⟩
      · have h1 := p.1 x hx
        obtain ⟨k, hk⟩ := hm
        obtain ⟨j, hj⟩ := ht.2 x (List.mem_cons_of_mem _ hx)
        rw [hk, hj] at h1
        have h2 : k < j := (Nat.pow_lt_pow_iff_right (by decide)).1 h1
        rw [hk, hj]
        have h3 := Nat.pow_le_pow_right (n := 2) (by decide) (show k + 1 ≤ j by omega)
        rw [Nat.pow_succ] at h3
        omega
    · rename_i e
      have h1 := hle h (List.mem_cons_self ..)
      refine ⟨List.pairwise_cons.2 ⟨fun x hx => ?_, ht.1⟩, fun x hx => ?_⟩
      · rcases List.mem_cons.1 hx with e2 | e2
        · omega
        · have := p.1 x e2; omega
      · rcases List.mem_cons.1 hx with e2 | e2
        · rw [e2]; exact hm
        · exact ht.2 x e2
/-- A power of two has no bit in common with the number below it. -/
theorem pow_and (k : Nat) : 2 ^ k &&& (2 ^ k - 1) = 0 := by
  rw [Nat.and_two_pow_sub_one_eq_mod, Nat.mod_self]

end Go.Proofs.Ytabpfbankinojaa
