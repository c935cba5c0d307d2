/-
  The names of generations, without any program.
-/
import Derived.Test.YtpocadbhajacaaaGreatDoorLzc
namespace Go.Proofs.YtpocadbhajacaaaGreatDoor
open Go.RowKit
set_option linter.unusedVariables false
set_option linter.unusedSimpArgs false

/-- journal- -/
def jPre : List UInt8 := [106, 111, 117, 114, 110, 97, 108, 45]
/-- The digits of a generation, six at least. -/
def jD (g : Nat) : List UInt8 := List.replicate (6 - (Lib.decDigits g).length) 48 ++ Lib.decDigits g
/-- The name of a generation's file. -/
def jN (g : Nat) : ByteArray := bA (jPre ++ jD g)
theorem dec_rep : ∀ (m : Nat) (l : List UInt8), Lib.decFrom 0 (List.replicate m 48 ++ l) = Lib.decFrom 0 l
  | 0, l => by simp
  | m + 1, l => by
    rw [List.replicate_succ, List.cons_append]
    have e : Lib.digitVal 48 = some 0 := rfl
    simp only [Lib.decFrom, e]
    exact dec_rep m l
theorem jD_dec (g : Nat) : Lib.decFrom 0 (jD g) = some g := by
  unfold jD
  rw [dec_rep]
  exact dec_of g g (Nat.le_refl _)
theorem jD_inj {g k : Nat} (h : jD g = jD k) : g = k := by
  have := jD_dec g
  rw [h, jD_dec k] at this
  injection this with this
  exact this.symm
theorem jN_inj {g k : Nat} (h : jN g = jN k) : g = k := jD_inj (List.append_cancel_left (bA_inj h))
theorem jN_ne {g k : Nat} (h : g ≠ k) : jN g ≠ jN k := fun e => h (jN_inj e)
theorem dec_len10 {g : Nat} (h : g ≤ 2147483647) : (Lib.decDigits g).length ≤ 10 := by
  have key : ∀ (k v : Nat), v < 10 ^ k → 0 < k → (Lib.decDigits v).length ≤ k := by
    intro k
    induction k with
    | zero => intro v _ h; omega
    | succ k ih =>
      intro v hv _
      by_cases h10 : v < 10
      · rw [Lib.decDigits_one h10]; simp
      · rw [dec_snoc h10, List.length_append]
        have hk : 0 < k := by
          rcases Nat.eq_zero_or_pos k with rfl | h
          · simp at hv; omega
          · exact h
        have := ih (v / 10) (by rw [Nat.pow_succ] at hv; omega) hk
        simp; omega
  exact key 10 g (by omega) (by decide)
theorem dec_pos (g : Nat) : 1 ≤ (Lib.decDigits g).length := by
  cases hd : Lib.decDigits g with
  | nil => exact absurd hd (dec_ne g)
  | cons a t => simp
theorem jD_len (g : Nat) : (jD g).length = max 6 (Lib.decDigits g).length := by
  unfold jD
  rw [List.length_append, List.length_replicate]
  omega
theorem jD_le {g : Nat} (h : g ≤ 2147483647) : 6 ≤ (jD g).length ∧ (jD g).length ≤ 10 := by
  have := dec_len10 h
  rw [jD_len]
  omega
theorem jN_size {g : Nat} (h : g ≤ 2147483647) : 14 ≤ (jN g).size ∧ (jN g).size ≤ 18 := by
  have := jD_le h
  unfold jN
  rw [bA_size, List.length_append]
  have : jPre.length = 8 := rfl
  omega
/-- Digits that write nought are noughts. -/
theorem dec_zero : ∀ (l : List UInt8), Lib.decFrom 0 l = some 0 → l = List.replicate l.length 48
  | [], _ => rfl
  | a :: t, h => by
    simp only [Lib.decFrom] at h
    cases ha : Lib.digitVal a with
    | none => simp [ha] at h
    | some d =>
      simp only [ha] at h
      have h1 := decFrom_le t _ 0 h
      obtain ⟨_, he⟩ := digit_val ha
      have hd : d = 0 := by omega
      subst hd
      have h2 := dec_zero t (by simpa using h)
      rw [List.length_cons, List.replicate_succ, ← h2, he]
      rfl
/-- Digits are noughts and their number's digits. -/
theorem dec_pad : ∀ (k : Nat) (l : List UInt8) (v : Nat), l.length ≤ k → Lib.decFrom 0 l = some v → v ≠ 0 → ∃ m, l = List.replicate m 48 ++ Lib.decDigits v := by
  intro k
  induction k with
  | zero =>
    intro l v hk hd h0
    obtain rfl : l = [] := List.eq_nil_of_length_eq_zero (by omega)
    simp only [Lib.decFrom, Option.some.injEq] at hd
    omega
  | succ k ih =>
    intro l v hk hd h0
    by_cases hl : l = []
    · subst hl
      simp only [Lib.decFrom, Option.some.injEq] at hd
      omega
    obtain ⟨m, b, rfl⟩ : ∃ m b, l = m ++ [b] := ⟨l.dropLast, l.getLast hl, (List.dropLast_concat_getLast hl).symm⟩
    rw [decFrom_snoc] at hd
    cases hm : Lib.decFrom 0 m with
    | none => rw [hm] at hd; cases hd
    | some u =>
      rw [hm] at hd
      simp only [Option.bind_some] at hd
      cases hb : Lib.digitVal b with
      | none => rw [hb] at hd; cases hd
      | some d =>
        rw [hb] at hd
        simp only [Option.map_some, Option.some.injEq] at hd
        obtain ⟨hd10, rfl⟩ := digit_val hb
        by_cases hu : u = 0
        · subst hu
          refine ⟨m.length, ?_⟩
          rw [← dec_zero m hm]
          have : v = d := by omega
          rw [this, Lib.decDigits_one hd10]
        · obtain ⟨q, hq⟩ := ih m u (by simp at hk; omega) hm hu
          refine ⟨q, ?_⟩
          have e1 : v / 10 = u := by omega
          have e2 : v % 10 = d := by omega
          rw [dec_snoc (show ¬ v < 10 by omega), e1, e2, hq, List.append_assoc]
/-- Six digits, or more without a nought ahead. -/
def jPad (l : List UInt8) : Prop := l.length = 6 ∨ (6 < l.length ∧ l.head? ≠ some 48)
theorem jD_pad {g : Nat} (h0 : 1 ≤ g) : jPad (jD g) := by
  unfold jPad
  rw [jD_len]
  by_cases h : (Lib.decDigits g).length ≤ 6
  · left; omega
  · right
    refine ⟨by omega, ?_⟩
    unfold jD
    have : 6 - (Lib.decDigits g).length = 0 := by omega
    rw [this]
    simpa using dec_head g g (Nat.le_refl _) h0
theorem pad_jD {l : List UInt8} {v : Nat} (hp : jPad l) (hd : Lib.decFrom 0 l = some v) (h0 : v ≠ 0) : l = jD v := by
  obtain ⟨m, rfl⟩ := dec_pad _ l v (Nat.le_refl _) hd h0
  unfold jD
  have hlen : (List.replicate m (48 : UInt8) ++ Lib.decDigits v).length = m + (Lib.decDigits v).length := by simp
  rcases hp with hp | ⟨hp, hh⟩
  · rw [hlen] at hp
    have : m = 6 - (Lib.decDigits v).length := by omega
    rw [this]
  · rw [hlen] at hp
    cases m with
    | zero =>
      have : 6 - (Lib.decDigits v).length = 0 := by omega
      rw [this]
    | succ m =>
      rw [List.replicate_succ] at hh
      exact absurd rfl hh
/-- The generation of a name; 0: it is none. -/
def GnOf (n : ByteArray) (g : Nat) : Prop := (1 ≤ g ∧ g ≤ 2147483647 ∧ n = jN g) ∨ (g = 0 ∧ ∀ k, 1 ≤ k → k ≤ 2147483647 → n ≠ jN k)
theorem gn_ex (n : ByteArray) : ∃ g, GnOf n g := by
  by_cases h : ∃ k, 1 ≤ k ∧ k ≤ 2147483647 ∧ n = jN k
  · obtain ⟨k, hk⟩ := h
    exact ⟨k, .inl hk⟩
  · exact ⟨0, .inr ⟨rfl, fun k h1 h2 h3 => h ⟨k, h1, h2, h3⟩⟩⟩
theorem GnOf.uniq {n : ByteArray} {g k : Nat} (h : GnOf n g) (h' : GnOf n k) : g = k := by
  rcases h with ⟨a, b, c⟩ | ⟨a, b⟩ <;> rcases h' with ⟨a', b', c'⟩ | ⟨a', b'⟩
  · exact jN_inj (c.symm.trans c')
  · exact absurd c (b' g a b)
  · exact absurd c' (b k a' b')
  · omega
/-- The value of digits; none where a letter is no digit, or where it passes the greatest generation. -/
def jV : Nat → List UInt8 → Option Nat
  | acc, [] => some acc
  | acc, b :: t => match Lib.digitVal b with
    | none => none
    | some d => if acc * 10 + d ≤ 2147483647 then jV (acc * 10 + d) t else none
theorem jV_dec : ∀ (l : List UInt8) (acc v : Nat), jV acc l = some v → Lib.decFrom acc l = some v ∧ (acc ≤ 2147483647 → v ≤ 2147483647)
  | [], acc, v, h => by simp only [jV, Option.some.injEq] at h; subst h; exact ⟨rfl, id⟩
  | b :: t, acc, v, h => by
    simp only [jV] at h
    cases hb : Lib.digitVal b with
    | none => simp [hb] at h
    | some d =>
      simp only [hb] at h
      split at h
      · rename_i hle
        obtain ⟨h1, h2⟩ := jV_dec t _ v h
        refine ⟨?_, fun _ => h2 hle⟩
        simp only [Lib.decFrom, hb]
        exact h1
      · cases h
theorem dec_jV : ∀ (l : List UInt8) (acc v : Nat), Lib.decFrom acc l = some v → v ≤ 2147483647 → jV acc l = some v
  | [], acc, v, h, _ => by simp only [Lib.decFrom] at h; simpa [jV] using h
  | b :: t, acc, v, h, hv => by
    simp only [Lib.decFrom] at h
    simp only [jV]
    cases hb : Lib.digitVal b with
    | none => simp [hb] at h
    | some d =>
      simp only [hb] at h
      have h1 := decFrom_le t _ v h
      simp only
      rw [if_pos (by omega)]
      exact dec_jV t _ v h hv
theorem jV_snoc : ∀ (l : List UInt8) (acc : Nat) (b : UInt8), jV acc (l ++ [b]) = (jV acc l).bind fun m => (Lib.digitVal b).bind fun d => if m * 10 + d ≤ 2147483647 then some (m * 10 + d) else none
  | [], acc, b => by
    simp only [List.nil_append, jV, Option.bind_some]
    cases Lib.digitVal b <;> rfl
  | a :: t, acc, b => by
    simp only [List.cons_append, jV]
    cases h : Lib.digitVal a with
    | none => rfl
    | some d =>
      simp only
      split
      · exact jV_snoc t _ b
      · rfl
theorem jV_stop {l : List UInt8} {acc q : Nat} (h : jV acc (l.take q) = none) : jV acc l = none := by
  have key : ∀ (a b : List UInt8) (acc : Nat), jV acc a = none → jV acc (a ++ b) = none := by
    intro a
    induction a with
    | nil => intro b acc h; simp [jV] at h
    | cons x t ih =>
      intro b acc h
      simp only [List.cons_append, jV] at h ⊢
      cases hx : Lib.digitVal x with
      | none => rfl
      | some d =>
        simp only [hx] at h ⊢
        split
        · rename_i hle
          rw [if_pos hle] at h
          exact ih b _ h
        · rfl
  rw [← List.take_append_drop q l]
  exact key _ _ _ h
/-- A name that begins otherwise is none. -/
theorem gn_pre {n : ByteArray} (h : Lib.hasPrefix (strL n) jPre = false) : GnOf n 0 := by
  refine .inr ⟨rfl, fun k _ _ e => ?_⟩
  rw [e] at h
  unfold jN at h
  rw [strL_bA] at h
  unfold Lib.hasPrefix at h
  rw [List.isPrefixOf_iff_prefix.2 (List.prefix_append _ _)] at h
  cases h
theorem gn_of {n : ByteArray} {l : List UInt8} (hn : n = bA (jPre ++ l)) : (¬ jPad l → GnOf n 0) ∧ (jV 0 l = none → GnOf n 0) ∧ (∀ v, jPad l → jV 0 l = some v → GnOf n v) := by
  subst hn
  have key : ∀ k, 1 ≤ k → bA (jPre ++ l) = jN k → l = jD k := fun k _ e => List.append_cancel_left (bA_inj e)
  refine ⟨fun hp => .inr ⟨rfl, fun k h1 h2 e => hp ?_⟩, fun hv => .inr ⟨rfl, fun k h1 h2 e => ?_⟩, fun v hp hv => ?_⟩
  · rw [key k h1 e]; exact jD_pad h1
  · rw [key k h1 e, dec_jV _ _ k (jD_dec k) h2] at hv
    cases hv
  · obtain ⟨h1, h2⟩ := jV_dec _ _ _ hv
    by_cases h0 : v = 0
    · subst h0
      refine .inr ⟨rfl, fun k k1 k2 e => ?_⟩
      rw [key k k1 e, jD_dec] at h1
      injection h1 with h1
      omega
    · exact .inl ⟨by omega, h2 (by omega), by unfold jN; rw [← pad_jD hp h1 h0]⟩
theorem has_pre {n : ByteArray} (h : Lib.hasPrefix (strL n) jPre = true) : n = bA (jPre ++ Lib.trimPrefix (strL n) jPre) := by
  have h1 := List.isPrefixOf_iff_prefix.1 h
  obtain ⟨t, ht⟩ := h1
  unfold Lib.trimPrefix
  rw [if_pos h, ← ht, List.drop_left, ht]
  rfl
/-- What the document reads of a name: digits without noughts ahead. -/
theorem jD_strip {g : Nat} (h0 : 1 ≤ g) (m : Nat) (l : List UInt8) (h : jD g = List.replicate m 48 ++ l) (hl : l.head? ≠ some 48 ∨ l.length ≤ 1) (hne : l ≠ []) : l = Lib.decDigits g := by
  have hd : Lib.decFrom 0 l = some g := by rw [← dec_rep m l, ← h]; exact jD_dec g
  exact (dec_canon _ l g (Nat.le_refl _) hne (fun hh => hl.resolve_right (by omega)) hd).symm

end Go.Proofs.YtpocadbhajacaaaGreatDoor
