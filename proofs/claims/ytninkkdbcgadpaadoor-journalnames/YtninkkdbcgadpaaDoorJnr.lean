/-
  The document's names of generations.
-/
import Derived.Test.YtninkkdbcgadpaaDoorJpa
namespace Go.Proofs.YtninkkdbcgadpaaDoor
open Go.RowKit
set_option linter.unusedVariables false
set_option linter.unusedSimpArgs false

theorem rep_cons (k : Nat) (l : List UInt8) : (⟨#[48]⟩ : ByteArray) ++ bA (List.replicate k 48 ++ l) = bA (List.replicate (k + 1) 48 ++ l) := by
  have := bA_app [48] (List.replicate k 48 ++ l)
  rw [List.replicate_succ, List.cons_append]
  exact this
theorem bA_pre2 (l : List UInt8) : (⟨#[106, 111, 117, 114, 110, 97, 108, 45]⟩ : ByteArray) ++ bA l = bA (jPre ++ l) := bA_app jPre l
set_option maxHeartbeats 400000 in
theorem nameR_ok (g : Nat) (w : World) (h1 : 1 ≤ g) (h2 : g ≤ 2147483647) : Calls Tryd.prog 5 #[.int .i64 (g : Int)] w fun r w' => r = .returned (.tuple #[.string (jN g), .int .i64 0]) ∧ w' = w := by
  have HD := hide (digits_any g g w (Nat.le_refl _) (by omega))
  have h10 := dec_len10 h2
  have hg1 : ¬ (g : Int) < 1 := by omega
  have hg2 : ¬ (2147483647 : Int) < (g : Int) := by omega
  obtain ⟨l, HL⟩ : ∃ l, Hid (Lib.decDigits g = l) := ⟨_, hide rfl⟩
  rw [HL.out] at HD h10
  have HJ : Hid (jN g = bA (jPre ++ (List.replicate (6 - l.length) 48 ++ l))) := hide (by unfold jN jD; rw [HL.out])
  rw [HJ.out]
  clear h1 h2 HJ HL
  go_enter Tryd.func5, Tryd.ntmps5
  go_wp2_with fail
  refine HD.out.mono ?_
  rintro e w1 ⟨rfl, rfl⟩
  clear HD
  go_wp2_with fail
  go_loopw [4] (fun s W => W = w1 ∧ ∃ k : Nat, k ≤ 6 - l.length ∧ ∃ S : ByteArray, s = .string S ∧ Hid (S = bA (List.replicate k 48 ++ l)) ∧ S.size = k + l.length) (fun s _ => match s with | .string S => 6 - S.size | _ => 0)
  case atStart => exact ⟨rfl, 0, Nat.zero_le _, _, rfl, hide (by simp), by rw [bA_size]; omega⟩
  case round =>
    obtain ⟨rfl, k, hk, S, rfl, HS, hS⟩ := hrel
    by_cases hlt : S.size < 6
    · have hlt' : (S.size : Int) < 6 := by omega
      have s1 : ¬ 9223372036854775807 < (⟨#[48]⟩ : ByteArray).size + S.size := by
        have : (⟨#[48]⟩ : ByteArray).size = 1 := rfl
        omega
      obtain ⟨T, HT⟩ : ∃ T, Hid ((⟨#[48]⟩ : ByteArray) ++ S = T) := ⟨_, hide rfl⟩
      have hT : T.size = k + 1 + l.length := by
        rw [← HT.out, app_size]
        have : (⟨#[48]⟩ : ByteArray).size = 1 := rfl
        omega
      have HB : Hid (T = bA (List.replicate (k + 1) 48 ++ l)) := hide (by rw [← HT.out, HS.out, rep_cons])
      have hadd := HT.out
      go_wp2
      go_roundw
      case rel => exact ⟨trivial, k + 1, by omega, T, rfl, HB, hT⟩
      case measure => simp only; omega
    · have hlt' : ¬ (S.size : Int) < 6 := by omega
      have hkk : k = 6 - l.length := by omega
      have s1 : ¬ 9223372036854775807 < (⟨#[106, 111, 117, 114, 110, 97, 108, 45]⟩ : ByteArray).size + S.size := by
        have : (⟨#[106, 111, 117, 114, 110, 97, 108, 45]⟩ : ByteArray).size = 8 := rfl
        omega
      have HF : Hid ((⟨#[106, 111, 117, 114, 110, 97, 108, 45]⟩ : ByteArray) ++ S = bA (jPre ++ (List.replicate (6 - l.length) 48 ++ l))) := hide (by rw [HS.out, bA_pre2, hkk])
      clear HS hkk hS
      go_wp2
      go_ret2
      exact ⟨by rw [HF.out]; rfl, rfl⟩
set_option maxHeartbeats 400000 in
theorem nameR_bad (g : Int) (w : World) (h : g < 1 ∨ 2147483647 < g) : Calls Tryd.prog 5 #[.int .i64 g] w fun r w' => r = .returned (.tuple #[.string ByteArray.empty, .int .i64 2]) ∧ w' = w := by
  by_cases h1 : g < 1
  · clear h
    go_enter Tryd.func5, Tryd.ntmps5
    go_wp2
    go_ret2
    exact ⟨rfl, rfl⟩
  · have h2 : 2147483647 < g := by omega
    clear h
    go_enter Tryd.func5, Tryd.ntmps5
    go_wp2
    go_ret2
    exact ⟨rfl, rfl⟩

end Go.Proofs.YtninkkdbcgadpaaDoor
