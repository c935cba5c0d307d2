/-
  Letters, and the numbers that digits write (out of Wz and Wnu, for seats without wire).
-/
import Derived.Test.YtpocadbhajacaaaGreatDoorNw
import Derived.Lib.ItoaMem
import Derived.Lib.ItoaLen
import Derived.Lib.AtoiTie
import Derived.Lib.AtoiAllCases
import Derived.Lib.CutLaws
import Derived.Lib.Replace
namespace Go.Proofs.YtpocadbhajacaaaGreatDoor
open Go.RowKit
set_option linter.unusedVariables false
set_option linter.unusedSimpArgs false

/-- A text's letters, and the text of letters. -/
def strL (s : ByteArray) : List UInt8 := s.data.toList
def bA (l : List UInt8) : ByteArray := ⟨l.toArray⟩
theorem strL_bA (l : List UInt8) : strL (bA l) = l := rfl
theorem bA_strL (s : ByteArray) : bA (strL s) = s := rfl
theorem strL_app (p q : ByteArray) : strL (p ++ q) = strL p ++ strL q := by
  show (ByteArray.append p q).data.toList = _
  rw [ByteArray.append_eq, ByteArray.data_append, Array.toList_append]
  rfl
theorem strL_length (s : ByteArray) : (strL s).length = s.size := by simp [strL]
theorem eq_of_strL {p q : ByteArray} (h : strL p = strL q) : p = q := by rw [← bA_strL p, ← bA_strL q, h]
theorem app_size (p q : ByteArray) : (p ++ q).size = p.size + q.size := by rw [← strL_length, strL_app, List.length_append, strL_length, strL_length]
theorem bA_app (l m : List UInt8) : bA l ++ bA m = bA (l ++ m) := eq_of_strL (by rw [strL_app, strL_bA, strL_bA, strL_bA])
theorem bA_size (l : List UInt8) : (bA l).size = l.length := by rw [← strL_length, strL_bA]
theorem bA_inj {l m : List UInt8} (h : bA l = bA m) : l = m := by rw [← strL_bA l, h, strL_bA]
theorem dec_step {n : Nat} (h : ¬ n < 10) : Lib.decDigits n = Lib.decDigits (n / 10) ++ Lib.decDigits (n % 10) := by
  rw [Lib.decDigits, dif_neg h, Lib.decDigits_one (Nat.mod_lt _ (by decide))]
theorem dec_len (n : Nat) (h : n < 18446744073709551616) : (Lib.decDigits n).length ≤ 20 := by
  rw [Lib.decDigits_length]; exact Lib.nDigits_le20 n h
theorem decFrom_app : ∀ (l m : List UInt8) (acc : Nat), Lib.decFrom acc (l ++ m) = (Lib.decFrom acc l).bind fun a => Lib.decFrom a m
  | [], m, acc => by simp [Lib.decFrom]
  | b :: l, m, acc => by
    simp only [List.cons_append, Lib.decFrom]
    cases h : Lib.digitVal b with
    | none => simp [h]
    | some d => simp only [h]; exact decFrom_app l m _
theorem digit_ofNat (d : Nat) (h : d < 10) : Lib.digitVal (UInt8.ofNat (48 + d)) = some d := by
  have : d = 0 ∨ d = 1 ∨ d = 2 ∨ d = 3 ∨ d = 4 ∨ d = 5 ∨ d = 6 ∨ d = 7 ∨ d = 8 ∨ d = 9 := by omega
  rcases this with rfl | rfl | rfl | rfl | rfl | rfl | rfl | rfl | rfl | rfl <;> rfl
theorem dec_snoc {n : Nat} (h : ¬ n < 10) : Lib.decDigits n = Lib.decDigits (n / 10) ++ [UInt8.ofNat (48 + n % 10)] := by
  rw [dec_step h, Lib.decDigits_one (Nat.mod_lt _ (by decide))]
theorem decFrom_one (acc d : Nat) (h : d < 10) : Lib.decFrom acc [UInt8.ofNat (48 + d)] = some (acc * 10 + d) := by
  simp only [Lib.decFrom, digit_ofNat d h]
theorem dec_of (m : Nat) : ∀ n, n ≤ m → Lib.decFrom 0 (Lib.decDigits n) = some n := by
  induction m with
  | zero =>
    intro n hn
    obtain rfl : n = 0 := by omega
    rw [Lib.decDigits_one (by decide)]
    exact decFrom_one 0 0 (by decide)
  | succ m ih =>
    intro n hn
    by_cases h : n < 10
    · rw [Lib.decDigits_one h, decFrom_one 0 n h]
      simp
    · rw [dec_snoc h, decFrom_app, ih (n / 10) (by omega)]
      simp only [Option.bind_some]
      rw [decFrom_one _ _ (Nat.mod_lt _ (by decide))]
      congr 1
      omega
theorem dec_ne (n : Nat) : Lib.decDigits n ≠ [] := by
  by_cases h : n < 10
  · rw [Lib.decDigits_one h]; simp
  · rw [dec_snoc h]; simp
/-- Digits are digits. -/
def isDg (b : UInt8) : Prop := ∃ d, d < 10 ∧ b = UInt8.ofNat (48 + d)
theorem isDg.ne {b : UInt8} (h : isDg b) : b ≠ 46 ∧ b ≠ 47 ∧ b ≠ 120 ∧ b ≠ 45 ∧ b ≠ 43 ∧ b ≠ 112 := by
  obtain ⟨d, hd, rfl⟩ := h
  have : d = 0 ∨ d = 1 ∨ d = 2 ∨ d = 3 ∨ d = 4 ∨ d = 5 ∨ d = 6 ∨ d = 7 ∨ d = 8 ∨ d = 9 := by omega
  rcases this with rfl | rfl | rfl | rfl | rfl | rfl | rfl | rfl | rfl | rfl <;> decide
theorem dec_dg (m : Nat) : ∀ n, n ≤ m → ∀ b ∈ Lib.decDigits n, isDg b := by
  induction m with
  | zero =>
    intro n hn b hb
    obtain rfl : n = 0 := by omega
    rw [Lib.decDigits_one (by decide)] at hb
    simp at hb
    exact ⟨0, by decide, hb⟩
  | succ m ih =>
    intro n hn b hb
    by_cases h : n < 10
    · rw [Lib.decDigits_one h] at hb
      simp at hb
      exact ⟨n, h, by rw [hb]; simp⟩
    · rw [dec_snoc h, List.mem_append] at hb
      rcases hb with hb | hb
      · exact ih (n / 10) (by omega) b hb
      · exact ⟨n % 10, Nat.mod_lt _ (by decide), by simpa using hb⟩
theorem atoi_dg {l : List UInt8} {v : Nat} (hl : l.length ≤ 18) (hne : l ≠ []) (hdg : ∀ b ∈ l, isDg b) (hd : Lib.decFrom 0 l = some v) : Lib.atoiAll l = .ok (v : Int) := by
  rw [Lib.atoiAll_short _ hl]
  cases l with
  | nil => exact absurd rfl hne
  | cons a t =>
    have ha := (hdg a (by simp)).ne
    have n45 : (a == 45) = false := by simp; exact ha.2.2.2.1
    have n43 : (a == 43) = false := by simp; exact ha.2.2.2.2.1
    unfold Lib.atoi
    simp only [n45, n43, Bool.false_eq_true, if_false, Lib.decNat, List.isEmpty_cons, hd, Option.map_some]
    rfl
end Go.Proofs.YtpocadbhajacaaaGreatDoor
