/-
  The sum of bytes, bit by bit and four bits at once; unlike registers stay unlike. No program here.
-/
import Derived.Laws.BitsAllLaws
import Derived.WalkKit
namespace Go.Proofs.YtninkkdbcgadpaaGreatDoor
open Go.RowKit
set_option linter.unusedVariables false
set_option maxRecDepth 100000

def pol : Nat := 3988292384
/-- One bit leaves the register. -/
def st1 (r : Nat) : Nat := if r % 2 = 1 then (r / 2) ^^^ pol else r / 2
def stN : Nat → Nat → Nat
  | 0, r => r
  | n + 1, r => stN n (st1 r)
/-- What four bits that leave at once turn. -/
def fdL : List Nat := [0, 498536548, 997073096, 651767980, 1994146192, 1802195444, 1303535960, 1342533948, 3988292384, 4027552580, 3604390888, 3412177804, 2607071920, 2262029012, 2685067896, 3183342108]
def nb (r : Nat) : Nat := (r / 16) ^^^ (fdL.getD (r % 16) 0)
/-- A byte comes. -/
def by8 (r c : Nat) : Nat := stN 8 (r ^^^ c)
/-- Bytes come, one behind the other. -/
def crR (r : Nat) (l : List Int) : Nat := l.foldl (fun r c => by8 r c.toNat) r
/-- What has this sum, with bytes behind it. -/
def crcE (s : Nat) (l : List Int) : Nat := 4294967295 - crR (4294967295 - s) l

theorem st1_lin (x y : Nat) : st1 (x ^^^ y) = st1 x ^^^ st1 y := by
  have h1 : (x ^^^ y) / 2 = (x / 2) ^^^ (y / 2) := by
    have e := Nat.shiftRight_xor_distrib (a := x) (b := y) (i := 1)
    simpa [Nat.shiftRight_eq_div_pow] using e
  have h2 : (x ^^^ y) % 2 = (x % 2) ^^^ (y % 2) := Nat.xor_mod_two_pow (n := 1)
  unfold st1
  rw [h1, h2]
  have ex : x % 2 = 0 ∨ x % 2 = 1 := by omega
  have ey : y % 2 = 0 ∨ y % 2 = 1 := by omega
  rcases ex with ex | ex <;> rcases ey with ey | ey <;> rw [ex, ey] <;> simp
  · rw [Nat.xor_assoc]
  · rw [Nat.xor_assoc, Nat.xor_assoc]; congr 1; exact Nat.xor_comm _ _
  · rw [Nat.xor_assoc, ← Nat.xor_assoc pol, Nat.xor_comm pol (y / 2), Nat.xor_assoc, Nat.xor_self, Nat.xor_zero]

theorem stN_lin : ∀ (n x y : Nat), stN n (x ^^^ y) = stN n x ^^^ stN n y
  | 0, x, y => rfl
  | n + 1, x, y => by simp only [stN]; rw [st1_lin]; exact stN_lin n _ _
theorem stN_add : ∀ (n m r : Nat), stN (n + m) r = stN m (stN n r)
  | 0, m, r => by rw [Nat.zero_add]; rfl
  | n + 1, m, r => by
    rw [show n + 1 + m = (n + m) + 1 by omega]
    simp only [stN]
    exact stN_add n m _
theorem st1_even (h : Nat) : st1 (2 * h) = h := by unfold st1; rw [if_neg (by omega)]; omega
theorem stN_16 (h : Nat) : stN 4 (16 * h) = h := by
  rw [show 16 * h = 2 * (2 * (2 * (2 * h))) by omega]
  simp only [stN, st1_even]
theorem stN_low : ∀ l, l < 16 → stN 4 l = fdL.getD l 0 := by decide
theorem or16 (h l : Nat) (hl : l < 16) : 16 * h + l = (16 * h) ^^^ l := by
  have e := Nat.two_pow_add_eq_or_of_lt (i := 4) (b := l) hl h
  have e2 : (2 ^ 4 * h) &&& l = 0 := by
    apply Nat.eq_of_testBit_eq
    intro i
    rw [Nat.testBit_and, Nat.zero_testBit, Nat.testBit_two_pow_mul]
    by_cases hi : 4 ≤ i
    · have : l.testBit i = false := Nat.testBit_lt_two_pow (Nat.lt_of_lt_of_le hl (Nat.pow_le_pow_right (show 2 > 0 by decide) hi))
      simp [this]
    · simp [hi]
  have e3 : (2 ^ 4 * h) ||| l = (2 ^ 4 * h) ^^^ l := by
    apply Nat.eq_of_testBit_eq
    intro i
    have := congrArg (fun z => z.testBit i) e2
    simp only [Nat.testBit_and, Nat.zero_testBit] at this
    rw [Nat.testBit_or, Nat.testBit_xor]
    cases h1 : (2 ^ 4 * h).testBit i <;> cases h2 : l.testBit i <;> simp_all
  rw [← e3]
  exact e
/-- Four bits at once. -/
theorem nb_is (r : Nat) : nb r = stN 4 r := by
  have h1 : r = 16 * (r / 16) + r % 16 := by omega
  have hl : r % 16 < 16 := by omega
  unfold nb
  generalize r / 16 = h at *
  generalize r % 16 = l at *
  rw [h1, or16 h l hl, stN_lin, stN_16, stN_low l hl]
theorem nb2 (r c : Nat) : nb (nb (r ^^^ c)) = by8 r c := by
  rw [nb_is, nb_is, by8, ← stN_add]

theorem pol_lt : pol < 4294967296 := by decide
theorem st1_lt (r : Nat) (h : r < 4294967296) : st1 r < 4294967296 := by
  unfold st1
  split
  · exact Nat.xor_lt_two_pow (n := 32) (by omega) (by decide)
  · omega
theorem stN_lt : ∀ (n r : Nat), r < 4294967296 → stN n r < 4294967296
  | 0, _, h => h
  | n + 1, r, h => stN_lt n _ (st1_lt r h)
theorem by8_lt (r c : Nat) (h : r < 4294967296) (hc : c < 256) : by8 r c < 4294967296 :=
  stN_lt 8 _ (Nat.xor_lt_two_pow (n := 32) h (Nat.lt_trans hc (by decide)))
theorem crR_nil (r : Nat) : crR r [] = r := rfl
theorem crR_snoc (r : Nat) (l : List Int) (c : Int) : crR r (l ++ [c]) = by8 (crR r l) c.toNat := by simp [crR]
theorem crR_app (r : Nat) (l m : List Int) : crR r (l ++ m) = crR (crR r l) m := by simp [crR]
theorem crR_lt (r : Nat) (l : List Int) (h : r < 4294967296) (hb : ∀ x ∈ l, 0 ≤ x ∧ x ≤ 255) : crR r l < 4294967296 := by
  induction l generalizing r with
  | nil => exact h
  | cons c l ih =>
    have hc := hb c (by simp)
    show crR (by8 r c.toNat) l < _
    exact ih _ (by8_lt r _ h (by omega)) fun x hx => hb x (by simp [hx])
theorem crE_lt (s : Nat) (l : List Int) : crcE s l < 4294967296 := by unfold crcE; omega
theorem crE_app (s : Nat) (l m : List Int) (hb : ∀ x ∈ l, 0 ≤ x ∧ x ≤ 255) : crcE (crcE s l) m = crcE s (l ++ m) := by
  have h := crR_lt (4294967295 - s) l (by omega) hb
  unfold crcE
  rw [crR_app, show 4294967295 - (4294967295 - crR (4294967295 - s) l) = crR (4294967295 - s) l by omega]

/-- Unlike registers stay unlike. -/
theorem st1_inj (x y : Nat) (hx : x < 4294967296) (hy : y < 4294967296) (h : st1 x = st1 y) : x = y := by
  have key : ∀ z, z < 4294967296 → (st1 z).testBit 31 = decide (z % 2 = 1) := by
    intro z hz
    have hh : (z / 2).testBit 31 = false := Nat.testBit_lt_two_pow (i := 31) (by omega)
    unfold st1
    split
    · rename_i h1
      rw [Nat.testBit_xor, hh, h1]
      decide
    · rename_i h1
      rw [hh]
      simp [h1]
  have k := key x hx
  rw [h, key y hy] at k
  have hp : (y % 2 = 1) ↔ (x % 2 = 1) := by
    have := k
    simpa using this
  have hd : x / 2 = y / 2 := by
    unfold st1 at h
    by_cases h1 : x % 2 = 1
    · rw [if_pos h1, if_pos (hp.2 h1)] at h
      have := congrArg (fun z => z ^^^ pol) h
      simpa [Nat.xor_assoc] using this
    · rw [if_neg h1, if_neg (fun e => h1 (hp.1 e))] at h
      exact h
  by_cases h1 : x % 2 = 1
  · have := hp.2 h1; omega
  · have : ¬ y % 2 = 1 := fun e => h1 (hp.1 e)
    omega
theorem stN_inj : ∀ (n x y : Nat), x < 4294967296 → y < 4294967296 → stN n x = stN n y → x = y
  | 0, _, _, _, _, h => h
  | n + 1, x, y, hx, hy, h => st1_inj x y hx hy (stN_inj n _ _ (st1_lt x hx) (st1_lt y hy) h)
theorem xor_inj (a x y : Nat) (h : a ^^^ x = a ^^^ y) : x = y := by
  have := congrArg (fun z => a ^^^ z) h
  simpa [← Nat.xor_assoc] using this
theorem by8_inj (x y c : Nat) (hx : x < 4294967296) (hy : y < 4294967296) (hc : c < 256) (h : by8 x c = by8 y c) : x = y := by
  have h1 := stN_inj 8 _ _ (Nat.xor_lt_two_pow (n := 32) hx (Nat.lt_trans hc (by decide))) (Nat.xor_lt_two_pow (n := 32) hy (Nat.lt_trans hc (by decide))) h
  rw [Nat.xor_comm x c, Nat.xor_comm y c] at h1
  exact xor_inj c _ _ h1
theorem by8_inj2 (x c d : Nat) (hx : x < 4294967296) (hc : c < 256) (hd : d < 256) (h : by8 x c = by8 x d) : c = d :=
  xor_inj x _ _ (stN_inj 8 _ _ (Nat.xor_lt_two_pow (n := 32) hx (Nat.lt_trans hc (by decide))) (Nat.xor_lt_two_pow (n := 32) hx (Nat.lt_trans hd (by decide))) h)
theorem crR_inj (l : List Int) (hb : ∀ x ∈ l, 0 ≤ x ∧ x ≤ 255) : ∀ (x y : Nat), x < 4294967296 → y < 4294967296 → crR x l = crR y l → x = y := by
  induction l with
  | nil => exact fun x y _ _ h => h
  | cons c l ih =>
    intro x y hx hy h
    have hc := hb c (by simp)
    have h2 := ih (fun z hz => hb z (by simp [hz])) (by8 x c.toNat) (by8 y c.toNat) (by8_lt _ _ hx (by omega)) (by8_lt _ _ hy (by omega)) h
    exact by8_inj x y c.toNat hx hy (by omega) h2
/-- One byte that is another one makes another sum. -/
theorem crR_set (r : Nat) (l : List Int) (k : Nat) (c : Int) (hr : r < 4294967296) (hb : ∀ x ∈ l, 0 ≤ x ∧ x ≤ 255) (hc : 0 ≤ c ∧ c ≤ 255) (hk : k < l.length) (h : crR r (l.set k c) = crR r l) : c = l.getD k 0 := by
  induction l generalizing r k with
  | nil => simp at hk
  | cons d l ih =>
    have hd := hb d (by simp)
    have hbl : ∀ x ∈ l, 0 ≤ x ∧ x ≤ 255 := fun z hz => hb z (by simp [hz])
    cases k with
    | zero =>
      have h1 : crR (by8 r c.toNat) l = crR (by8 r d.toNat) l := h
      have h2 := crR_inj l hbl _ _ (by8_lt _ _ hr (by omega)) (by8_lt _ _ hr (by omega)) h1
      have h3 := by8_inj2 r _ _ hr (by omega) (by omega) h2
      show c = d
      omega
    | succ k =>
      have h1 : crR (by8 r d.toNat) (l.set k c) = crR (by8 r d.toNat) l := h
      have := ih (by8 r d.toNat) k (by8_lt _ _ hr (by omega)) hbl (by simpa using hk) h1
      simpa using this
theorem crE_set (s : Nat) (l : List Int) (k : Nat) (c : Int) (hb : ∀ x ∈ l, 0 ≤ x ∧ x ≤ 255) (hc : 0 ≤ c ∧ c ≤ 255) (hk : k < l.length) (hne : c ≠ l.getD k 0) : crcE s (l.set k c) ≠ crcE s l := by
  intro h
  have h1 := crR_lt (4294967295 - s) l (by omega) hb
  have h2 : crR (4294967295 - s) (l.set k c) < 4294967296 := crR_lt _ _ (by omega) fun x hx => by
    rcases List.mem_or_eq_of_mem_set hx with hx | rfl
    · exact hb x hx
    · exact hc
  unfold crcE at h
  exact hne (crR_set (4294967295 - s) l k c (by omega) hb hc hk (by omega))

end Go.Proofs.YtninkkdbcgadpaaGreatDoor
