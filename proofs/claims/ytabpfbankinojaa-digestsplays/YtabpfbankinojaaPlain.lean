/-
  Plain facts on lists of bytes and numbers: the number that bytes stand for, the highest first, and how reading at a place answers. No program here.
-/
import Derived.WalkKit
import Derived.Laws.BitsAllLaws
namespace Go.Proofs.Ytabpfbankinojaa
open Go.RowKit

theorem hide {p : Prop} (h : p) : Hid p := h

/-- Each is a byte. -/
def isB (xs : List Int) : Prop := ∀ x ∈ xs, 0 ≤ x ∧ x ≤ 255

theorem isB.get {xs : List Int} (h : isB xs) (i : Nat) : 0 ≤ xs.getD i 0 ∧ xs.getD i 0 ≤ 255 := by
  by_cases hi : i < xs.length
  · have := h xs[i] (List.getElem_mem hi)
    simpa [List.getD, hi] using this
  · simp [List.getD, List.getElem?_eq_none (Nat.le_of_not_lt hi)]

theorem isB.take {xs : List Int} (h : isB xs) (n : Nat) : isB (xs.take n) := fun x hx => h x (List.mem_of_mem_take hx)
theorem isB.drop {xs : List Int} (h : isB xs) (n : Nat) : isB (xs.drop n) := fun x hx => h x (List.mem_of_mem_drop hx)
theorem isB.append {xs ys : List Int} (h : isB xs) (k : isB ys) : isB (xs ++ ys) := fun x hx => by
  rcases List.mem_append.1 hx with hx | hx
  · exact h x hx
  · exact k x hx

/-- The number whose bytes, the highest first, are these. -/
def beVal (l : List Int) : Int := l.foldl (fun v x => v * 256 + x) 0

theorem beVal_snoc (l : List Int) (x : Int) : beVal (l ++ [x]) = beVal l * 256 + x := by simp [beVal]

theorem beVal_bd (l : List Int) (h : isB l) : 0 ≤ beVal l ∧ beVal l < 256 ^ l.length := by
  have key : ∀ (n : Nat) (l : List Int), l.length = n → isB l → 0 ≤ beVal l ∧ beVal l < 256 ^ n := by
    intro n
    induction n with
    | zero => intro l hl _; have : l = [] := List.eq_nil_of_length_eq_zero hl; subst this; simp [beVal]
    | succ n ih =>
      intro l hl hb
      have hne : l ≠ [] := by intro e; subst e; simp at hl
      have e : l.dropLast ++ [l.getLast hne] = l := List.dropLast_concat_getLast hne
      have h1 := ih l.dropLast (by simp; omega) (fun x hx => hb x ((List.dropLast_sublist l).subset hx))
      have h2 := hb (l.getLast hne) (List.getLast_mem hne)
      rw [← e, beVal_snoc, Int.pow_succ]
      omega
  exact key l.length l rfl h

theorem take_drop_succ (xs : List Int) (p k : Nat) (h : p + k < xs.length) : (xs.drop p).take (k + 1) = (xs.drop p).take k ++ [xs.getD (p + k) 0] := by
  rw [List.take_succ_eq_append_getElem (by simp; omega)]
  simp [List.getD, h]

theorem beVal_step (xs : List Int) (p k : Nat) (h : p + k < xs.length) : beVal ((xs.drop p).take (k + 1)) = beVal ((xs.drop p).take k) * 256 + xs.getD (p + k) 0 := by
  rw [take_drop_succ xs p k h, beVal_snoc]

theorem pow256_le (k : Nat) (h : k ≤ 7) : (256 : Int) ^ k ≤ 72057594037927936 := by
  match k, h with
  | 0, _ => decide
  | 1, _ => decide
  | 2, _ => decide
  | 3, _ => decide
  | 4, _ => decide
  | 5, _ => decide
  | 6, _ => decide
  | 7, _ => decide

theorem beVal_take_bd (xs : List Int) (hb : isB xs) (p k : Nat) (h : p + k ≤ xs.length) (hk : k ≤ 7) : 0 ≤ beVal ((xs.drop p).take k) ∧ beVal ((xs.drop p).take k) < 72057594037927936 := by
  have h1 := beVal_bd _ ((hb.drop p).take k)
  have hl : ((xs.drop p).take k).length = k := by simp; omega
  rw [hl] at h1
  have := pow256_le k hk
  omega

theorem or_step (v x : Int) (h0 : 0 ≤ v) (h1 : v < 72057594037927936) (h2 : 0 ≤ x) (h3 : x ≤ 255) :
    bits BinOp.or IntKind.u64 (IntKind.u64.wrap (v * 256)) (IntKind.u64.wrap x) = v * 256 + x := by
  rw [IntKind.wrap_u64, IntKind.wrap_u64, Int.emod_eq_of_lt (by omega) (by omega), Int.emod_eq_of_lt (by omega) (by omega), u64_or _ _ (by omega) (by omega) (by omega) (by omega)]
  rw [nat_join 8 _ _ (by omega) (by omega)]
  omega

/-- What reading n bytes at a place of bytes of this length answers: the error's number. -/
def rdE (len : Nat) (p : Int) (n : Nat) : Int := if p < 0 ∨ (len : Int) < p then 2 else if (len : Int) - p < n then 10 else 0
/-- The number that is read. -/
def rdV (xs : List Int) (p : Int) (n : Nat) : Int := if 0 ≤ p ∧ p + n ≤ xs.length then beVal ((xs.drop p.toNat).take n) else 0
/-- The place behind it. -/
def rdN (len : Nat) (p : Int) (n : Nat) : Int := if 0 ≤ p ∧ p + n ≤ len then p + n else 0

theorem rdV_bd (xs : List Int) (hb : isB xs) (p : Int) (n : Nat) : 0 ≤ rdV xs p n ∧ rdV xs p n < 256 ^ n := by
  unfold rdV
  split
  · rename_i h
    have h1 := beVal_bd _ ((hb.drop p.toNat).take n)
    have hl : ((xs.drop p.toNat).take n).length = n := by simp; omega
    rwa [hl] at h1
  · exact ⟨Int.le_refl _, Int.pow_pos (by decide)⟩

end Go.Proofs.Ytabpfbankinojaa
