/-
  The names of the files of leaves: the document's file and Name.
-/
import Derived.Test.YtpocadbhajacaaaDoorBwb
import Derived.Test.YtpocadbhajacaaaDoorLzc
namespace Go.Proofs.YtpocadbhajacaaaDoor
open Go.RowKit
set_option linter.unusedVariables false
set_option linter.unusedSimpArgs false
set_option maxRecDepth 100000

theorem rep_consB (k : Nat) (l : List UInt8) : (⟨#[48]⟩ : ByteArray) ++ bA (List.replicate k 48 ++ l) = bA (List.replicate (k + 1) 48 ++ l) := by
  have := bA_app [48] (List.replicate k 48 ++ l)
  rw [List.replicate_succ, List.cons_append]
  exact this
theorem height_is (h : Int) (w : World) : Calls Tryd.prog 8 #[.int .i64 h] w fun r w' => r = .returned (.bool (decide (1 ≤ h) && decide (h ≤ 8))) ∧ w' = w := by
  by_cases h1 : 1 ≤ h
  · by_cases h8 : h ≤ 8
    · go_enter Tryd.func8, Tryd.ntmps8
      go_wp2
      go_ret
      exact ⟨by simp [h1, h8], rfl⟩
    · go_enter Tryd.func8, Tryd.ntmps8
      go_wp2
      go_ret
      exact ⟨by simp [h1, h8], rfl⟩
  · go_enter Tryd.func8, Tryd.ntmps8
    go_wp2
    go_ret
    exact ⟨by simp [h1]; omega, rfl⟩
set_option maxHeartbeats 1000000 in
theorem fileR_any (h k : Nat) (w : World) (hh : hB h) (hk : k ≤ 2147483647) : Calls Tryd.prog 9 #[.int .i64 (h : Int), .int .i64 (k : Int)] w fun r w' => r = .returned (.string (lfN h k)) ∧ w' = w := by
  have HD := hide (digits_any k k w (Nat.le_refl _) (by omega))
  have HE := hide (fun (V : World) => digits_any h h V (Nat.le_refl _) (by have := hh.2; omega))
  have h10 := dec_len10 hk
  obtain ⟨l, HL⟩ : ∃ l, Hid (Lib.decDigits k = l) := ⟨_, hide rfl⟩
  rw [HL.out] at HD h10
  obtain ⟨A, HA⟩ : ∃ A, Hid (bA (Lib.decDigits h) = A) := ⟨_, hide rfl⟩
  have hA : A.size = 1 := by rw [← HA.out, bA_size, dec_h hh]; rfl
  rw [HA.out] at HE
  obtain ⟨Y, HY⟩ : ∃ Y, Hid ((⟨#[108, 101, 97, 102, 47]⟩ : ByteArray) ++ A = Y) := ⟨_, hide rfl⟩
  have hP : (⟨#[108, 101, 97, 102, 47]⟩ : ByteArray).size = 5 := rfl
  have hQ : (⟨#[47]⟩ : ByteArray).size = 1 := rfl
  have hY : Y.size = 6 := by rw [← HY.out, app_size, hP, hA]
  obtain ⟨X, HX⟩ : ∃ X, Hid (Y ++ (⟨#[47]⟩ : ByteArray) = X) := ⟨_, hide rfl⟩
  have HXD : Hid (X = bA (lfD h)) := hide (by rw [← HX.out, ← HY.out, ← HA.out, bA_lfP, bA_sl]; rfl)
  have hX : X.size = 7 := by rw [← HX.out, app_size, hY, hQ]
  have HJ : Hid (lfN h k = bA (lfD h ++ (List.replicate (6 - l.length) 48 ++ l))) := hide (by rw [lfN_D]; unfold jD; rw [HL.out])
  rw [HJ.out]
  clear hk HL HJ
  go_enter Tryd.func9, Tryd.ntmps9
  go_wp2_with fail
  refine HD.out.mono ?_
  rintro e w1 ⟨rfl, rfl⟩
  clear HD
  go_wp2_with fail
  go_loopw [5] (fun s W => W = w1 ∧ ∃ k : Nat, k ≤ 6 - l.length ∧ ∃ S : ByteArray, s = .string S ∧ Hid (S = bA (List.replicate k 48 ++ l)) ∧ S.size = k + l.length) (fun s _ => match s with | .string S => 6 - S.size | _ => 0)
  case atStart => exact ⟨rfl, 0, Nat.zero_le _, _, rfl, hide (by simp), by rw [bA_size]; omega⟩
  case round =>
    obtain ⟨rfl, k, hk, S, rfl, HS, hS⟩ := hrel
    by_cases hlt : S.size < 6
    · have hlt' : (S.size : Int) < 6 := by omega
      have s1 : ¬ 9223372036854775807 < (⟨#[48]⟩ : ByteArray).size + S.size := by
        have : (⟨#[48]⟩ : ByteArray).size = 1 := rfl
        omega
      obtain ⟨T, HT⟩ : ∃ T, Hid ((⟨#[48]⟩ : ByteArray) ++ S = T) := ⟨_, hide rfl⟩
      have hT : T.size = k + 1 + l.length := by
        rw [← HT.out, app_size]
        have : (⟨#[48]⟩ : ByteArray).size = 1 := rfl
        omega
      have HB : Hid (T = bA (List.replicate (k + 1) 48 ++ l)) := hide (by rw [← HT.out, HS.out, rep_consB])
      have hadd := HT.out
      go_wp2
      go_roundw
      case rel => exact ⟨trivial, k + 1, by omega, T, rfl, HB, hT⟩
      case measure => simp only; omega
    · have hlt' : ¬ (S.size : Int) < 6 := by omega
      have hkk : k = 6 - l.length := by omega
      have s1 : ¬ 9223372036854775807 < (⟨#[108, 101, 97, 102, 47]⟩ : ByteArray).size + A.size := by rw [hP, hA]; omega
      have s2 : ¬ 9223372036854775807 < Y.size + (⟨#[47]⟩ : ByteArray).size := by rw [hY, hQ]; omega
      have s3 : ¬ 9223372036854775807 < X.size + S.size := by rw [hX]; omega
      have HF : Hid (X ++ S = bA (lfD h ++ (List.replicate (6 - l.length) 48 ++ l))) := hide (by rw [HXD.out, HS.out, bA_app, hkk])
      have hadd1 := HY.out
      have hadd2 := HX.out
      clear HS hkk hS hX hY hA hP hQ
      go_wp2_with fail
      refine (HE.out _).mono ?_
      rintro e w2 ⟨rfl, rfl⟩
      go_wp2
      go_ret
      exact ⟨by rw [HF.out]; rfl, rfl⟩
set_option maxHeartbeats 1000000 in
theorem bnameR_any (h i : Int) (w : World) : Calls Tryd.prog 5 #[.int .i64 h, .int .i64 i] w fun r w' => r = .returned (.tuple #[.string (bnP h i), .int .i64 (bnE h i)]) ∧ w' = w := by
  have HH := hide (fun (V : World) => height_is h V)
  by_cases hk : nmO' h i = true
  · obtain ⟨H, I, rfl, rfl, hh, hI⟩ := nmO'_nats hk
    rw [bnP_nat hh hI, bnE_nat hh hI]
    have h1 := hh.1
    have h8 := hh.2
    have hp := hh.pow
    have hb : (decide ((1 : Int) ≤ (H : Int)) && decide ((H : Int) ≤ 8)) = true := by simp; omega
    rw [hb] at HH
    have hf3 : ¬ (I : Int) < 0 := by omega
    have hf4 : ¬ (1048576 : Int) ≤ (I : Int) := by omega
    have hdv : I / 2 ^ H ≤ I := Nat.div_le_self _ _
    have HN := hide (fileR_any H (I / 2 ^ H) w hh (by omega))
    obtain ⟨q, HQ⟩ : ∃ q, Hid (I / 2 ^ H = q) := ⟨_, hide rfl⟩
    have hq : ((I : Int) / 2 ^ H) = (q : Int) := by rw [shrN, HQ.out]
    rw [HQ.out] at HN ⊢
    generalize lfN H q = nm at *
    have hH1 : (1 : Int) ≤ (H : Int) := by omega
    have hH2 : (H : Int) ≤ 8 := by omega
    clear hh hI hp hdv hk HQ hb h1 h8
    go_enter Tryd.func5, Tryd.ntmps5
    go_wp2_with fail
    refine (HH.out _).mono ?_
    rintro r w' ⟨rfl, hw'⟩
    subst w'
    have hsh : (I : Int) / 2 ^ min (IntKind.u64.wrap (H : Int)).toNat 64 = (q : Int) := by
      rw [← hq, IntKind.wrap_u64, Int.emod_eq_of_lt (by omega) (by omega), Int.toNat_natCast, Nat.min_eq_left (by omega)]
    have hd3 : decide ((I : Int) < 0) = false := decide_eq_false (by omega)
    have hd4 : decide ((1048576 : Int) ≤ (I : Int)) = false := decide_eq_false (by omega)
    clear hq hH1 hH2 hf3 hf4
    go_wp2_with fail
    refine HN.out.mono ?_
    rintro e w1 ⟨rfl, rfl⟩
    go_wp2
    go_ret2
    exact ⟨rfl, rfl⟩
  · have e1 : bnP h i = bA [] := by unfold bnP; rw [if_neg hk]
    have e2 : bnE h i = 2 := by unfold bnE; rw [if_neg hk]
    rw [e1, e2]
    have hk2 := fun a => hk (nmO'_is.2 a)
    clear e1 e2 hk
    by_cases hb : (decide (1 ≤ h) && decide (h ≤ 8)) = true
    · have hb2 : 1 ≤ h ∧ h ≤ 8 := by simpa using hb
      rw [hb] at HH
      by_cases h0 : i < 0
      · clear hk2 hb hb2
        go_enter Tryd.func5, Tryd.ntmps5
        go_wp2_with (go_at_call 8; refine (HH.out _).mono ?_; rintro r w' ⟨rfl, hw'⟩; subst w')
        go_ret2
        exact ⟨rfl, rfl⟩
      · have hm : 1048576 ≤ i := by
          rcases Int.lt_or_le i 1048576 with hlt | hge
          · exact absurd ⟨hb2.1, hb2.2, by omega, hlt⟩ hk2
          · exact hge
        clear hk2 hb hb2
        go_enter Tryd.func5, Tryd.ntmps5
        go_wp2_with (go_at_call 8; refine (HH.out _).mono ?_; rintro r w' ⟨rfl, hw'⟩; subst w')
        go_ret2
        exact ⟨rfl, rfl⟩
    · have hbf : (decide (1 ≤ h) && decide (h ≤ 8)) = false := by simpa using hb
      rw [hbf] at HH
      clear hk2 hb hbf
      go_enter Tryd.func5, Tryd.ntmps5
      go_wp2_with (go_at_call 8; refine (HH.out _).mono ?_; rintro r w' ⟨rfl, hw'⟩; subst w')
      go_ret2
      exact ⟨rfl, rfl⟩

end Go.Proofs.YtpocadbhajacaaaDoor
