/-
  The names of the files of leaves: the program's folder, nameOf, Name; isMade.
-/
import Derived.Test.YtpocadbhajacaaaGreatDoorBwa
import Derived.Test.YtpocadbhajacaaaGreatDoorLzb
namespace Go.Proofs.YtpocadbhajacaaaGreatDoor
open Go.RowKit
set_option linter.unusedVariables false
set_option linter.unusedSimpArgs false
set_option maxRecDepth 100000

theorem repN_one (c : Nat) : Lib.repeatL [48] c = List.replicate c 48 := by
  induction c with
  | zero => rfl
  | succ c ih => rw [Lib.repeatL, ih, List.replicate_succ]; rfl
theorem repN_any (c : Nat) (w : World) (hc : c ≤ 6) : Calls Tryz.prog 73 #[.string { data := #[48] }, .int .i64 (c : Int)] w fun r w' => r = .returned (.string (bA (List.replicate c 48))) ∧ Below w.heap.size w w' := by
  refine (Tryz.strings_Repeat { data := #[48] } c w (by omega) (by show 1 * c ≤ _; omega)).mono ?_
  rintro e w' ⟨rfl, hb⟩
  refine ⟨?_, hb⟩
  show Ending.returned (.string ⟨(Lib.repeatL [48] c).toArray⟩) = _
  rw [repN_one]
  rfl
/-- A height's folder. -/
def lfD (h : Nat) : List UInt8 := lfP ++ Lib.decDigits h ++ [47]
theorem lfD_len {h : Nat} (a : hB h) : (lfD h).length = 7 := by
  unfold lfD
  rw [dec_h a]
  rfl
theorem lfN_D (h k : Nat) : lfN h k = bA (lfD h ++ jD k) := rfl
theorem bA_lfP (l : List UInt8) : (⟨#[108, 101, 97, 102, 47]⟩ : ByteArray) ++ bA l = bA (lfP ++ l) := bA_app lfP l
theorem bA_sl (l : List UInt8) : bA l ++ (⟨#[47]⟩ : ByteArray) = bA (l ++ [47]) := bA_app l [47]
set_option maxHeartbeats 400000 in
theorem folder_any (h : Nat) (w : World) (hh : hB h) (ht : PT w) : Calls Tryz.prog 72 #[.int .i64 (h : Int)] w fun r w' => r = .returned (.string (bA (lfD h))) ∧ Below w.heap.size w w' := by
  have HI := hide (itoa_any h w (by have := hh.2; omega) ht)
  obtain ⟨A, HA⟩ : ∃ A, Hid (bA (Lib.decDigits h) = A) := ⟨_, hide rfl⟩
  have hA : A.size = 1 := by rw [← HA.out, bA_size, dec_h hh]; rfl
  rw [HA.out] at HI
  obtain ⟨Y, HY⟩ : ∃ Y, Hid ((⟨#[108, 101, 97, 102, 47]⟩ : ByteArray) ++ A = Y) := ⟨_, hide rfl⟩
  have hP : (⟨#[108, 101, 97, 102, 47]⟩ : ByteArray).size = 5 := rfl
  have hQ : (⟨#[47]⟩ : ByteArray).size = 1 := rfl
  have hY : Y.size = 6 := by rw [← HY.out, app_size, hP, hA]
  have HE : Hid (Y ++ (⟨#[47]⟩ : ByteArray) = bA (lfD h)) := hide (by rw [← HY.out, ← HA.out, bA_lfP, bA_sl]; rfl)
  rw [← HE.out]
  have s1 : ¬ 9223372036854775807 < (⟨#[108, 101, 97, 102, 47]⟩ : ByteArray).size + A.size := by rw [hP, hA]; omega
  have s2 : ¬ 9223372036854775807 < Y.size + (⟨#[47]⟩ : ByteArray).size := by rw [hY, hQ]; omega
  clear hY hP hQ hA HE ht
  go_enter Tryz.func72, Tryz.ntmps72
  go_wp2_with fail
  refine HI.out.mono ?_
  rintro e w1 ⟨rfl, hb1⟩
  have B1 := hide hb1
  have hadd := HY.out
  clear hb1
  go_wp2
  go_ret
  exact ⟨rfl, B1.out⟩
set_option maxHeartbeats 400000 in
theorem nameOf_any (h k : Nat) (w : World) (hh : hB h) (hk : k ≤ 2147483647) (ht : PT w) : Calls Tryz.prog 41 #[.int .i64 (h : Int), .int .i64 (k : Int)] w fun r w' => r = .returned (.string (lfN h k)) ∧ Below w.heap.size w w' := by
  have h10 := dec_len10 hk
  have HI := hide (itoa_any k w (by omega) ht)
  have HF := hide (fun (V : World) (hV : PT V) => folder_any h V hh hV)
  have HT := hide ht
  obtain ⟨A, HA⟩ : ∃ A, Hid (bA (Lib.decDigits k) = A) := ⟨_, hide rfl⟩
  rw [HA.out] at HI
  have hA : A.size = (Lib.decDigits k).length := by rw [← HA.out, bA_size]
  obtain ⟨n, HN⟩ : ∃ n, Hid ((Lib.decDigits k).length = n) := ⟨_, hide rfl⟩
  rw [HN.out] at hA h10
  obtain ⟨c, HC⟩ : ∃ c, Hid (6 - n = c) := ⟨_, hide rfl⟩
  have hc6 : c ≤ 6 := by rw [← HC.out]; omega
  have HMX : Hid (max (6 - (n : Int)) 0 = (c : Int)) := hide (by rw [← HC.out]; omega)
  have HR := hide (fun V => repN_any c V hc6)
  obtain ⟨Z, HZ⟩ : ∃ Z, Hid (bA (List.replicate c 48) = Z) := ⟨_, hide rfl⟩
  rw [HZ.out] at HR
  have hZ : Z.size = c := by rw [← HZ.out, bA_size, List.length_replicate]
  obtain ⟨D, HD⟩ : ∃ D, Hid (bA (lfD h) = D) := ⟨_, hide rfl⟩
  rw [HD.out] at HF
  have hD : D.size = 7 := by rw [← HD.out, bA_size, lfD_len hh]
  have HE : Hid ((D ++ Z) ++ A = lfN h k) := hide (by
    rw [← HZ.out, ← HA.out, ← HD.out, lfN_D, bA_app, bA_app]
    unfold jD
    rw [HN.out, HC.out, List.append_assoc])
  obtain ⟨Y, HY⟩ : ∃ Y, Hid (D ++ Z = Y) := ⟨_, hide rfl⟩
  have hY : Y.size = 7 + c := by rw [← HY.out, app_size, hD, hZ]
  rw [HY.out] at HE
  rw [← HE.out]
  have s1 : ¬ 9223372036854775807 < D.size + Z.size := by rw [hD, hZ]; omega
  have s2 : ¬ 9223372036854775807 < Y.size + A.size := by rw [hY, hA]; omega
  clear hY hZ hD HE HZ HN HD h10 ht
  go_enter Tryz.func41, Tryz.ntmps41
  go_wp2_with fail
  refine HI.out.mono ?_
  rintro e w1 ⟨rfl, hb1⟩
  have B1 := hide hb1
  clear hb1
  go_wp2_with fail
  refine (HF.out _ (HT.out.below B1.out)).mono ?_
  rintro e w2 ⟨rfl, hb2⟩
  have B2 := hide (on_below B1.out hb2)
  clear hb2 B1
  go_wp2_with fail
  rw [HMX.out]
  refine (HR.out _).mono ?_
  rintro e w3 ⟨rfl, hb3⟩
  have B3 := hide (on_below B2.out hb3)
  have hadd := HY.out
  clear hb3 B2
  go_wp2
  go_ret
  exact ⟨rfl, B3.out⟩
/-- May a leaf of this height and index be? -/
def nmO' (h i : Int) : Bool := decide (1 ≤ h) && decide (h ≤ 8) && decide (0 ≤ i) && decide (i < 1048576)
/-- What Name tells. -/
def bnP (h i : Int) : ByteArray := if nmO' h i = true then lfN h.toNat (i.toNat / 2 ^ h.toNat) else bA []
def bnE (h i : Int) : Int := if nmO' h i = true then 0 else 2
theorem nmO'_is {h i : Int} : nmO' h i = true ↔ 1 ≤ h ∧ h ≤ 8 ∧ 0 ≤ i ∧ i < 1048576 := by
  simp only [nmO', Bool.and_eq_true, decide_eq_true_eq]
  omega
theorem nmO'_nats {h i : Int} (k : nmO' h i = true) : ∃ H I : Nat, h = H ∧ i = I ∧ hB H ∧ I < 1048576 := by
  have := nmO'_is.1 k
  exact ⟨h.toNat, i.toNat, by omega, by omega, ⟨by omega, by omega⟩, by omega⟩
theorem bnE_nat {H I : Nat} (a : hB H) (b : I < 1048576) : bnE (H : Int) (I : Int) = 0 := by
  unfold bnE
  rw [if_pos (nmO'_is.2 ⟨by have := a.1; omega, by have := a.2; omega, by omega, by omega⟩)]
theorem bnP_nat {H I : Nat} (a : hB H) (b : I < 1048576) : bnP (H : Int) (I : Int) = lfN H (I / 2 ^ H) := by
  unfold bnP
  rw [if_pos (nmO'_is.2 ⟨by have := a.1; omega, by have := a.2; omega, by omega, by omega⟩)]
  simp only [Int.toNat_natCast]
theorem bnE_bin (h i : Int) : bnE h i = 0 ∨ bnE h i = 2 := by unfold bnE; split <;> simp
theorem bnE_zero {h i : Int} (k : bnE h i = 0) : nmO' h i = true := by
  unfold bnE at k
  split at k
  · assumption
  · cases k
theorem shrN (I H : Nat) : ((I : Int) / 2 ^ H) = ((I / 2 ^ H : Nat) : Int) := by rw [Int.natCast_ediv, Int.natCast_pow]; rfl
set_option maxHeartbeats 1000000 in
theorem bname_any (h i : Int) (w : World) (ht : PT w) : Calls Tryz.prog 32 #[.int .i64 h, .int .i64 i] w fun r w' => r = .returned (.tuple #[.string (bnP h i), .int .i64 (bnE h i)]) ∧ Below w.heap.size w w' := by
  by_cases hk : nmO' h i = true
  · obtain ⟨H, I, rfl, rfl, hh, hI⟩ := nmO'_nats hk
    rw [bnP_nat hh hI, bnE_nat hh hI]
    have h1 := hh.1
    have h8 := hh.2
    have hp := hh.pow
    have hf1 : ¬ (H : Int) < 1 := by omega
    have hf2 : ¬ (8 : Int) < (H : Int) := by omega
    have hf3 : ¬ (I : Int) < 0 := by omega
    have hf4 : ¬ (1048576 : Int) ≤ (I : Int) := by omega
    have hdv : I / 2 ^ H ≤ I := Nat.div_le_self _ _
    have HN := hide (nameOf_any H (I / 2 ^ H) w hh (by omega) ht)
    obtain ⟨q, HQ⟩ : ∃ q, Hid (I / 2 ^ H = q) := ⟨_, hide rfl⟩
    have hq : ((I : Int) / 2 ^ H) = (q : Int) := by rw [shrN, HQ.out]
    rw [HQ.out] at HN ⊢
    generalize lfN H q = nm at *
    clear ht hh hI hp hdv hk HQ
    go_enter Tryz.func32, Tryz.ntmps32
    go_wp2_with fail
    refine HN.out.mono ?_
    rintro e w1 ⟨rfl, hb1⟩
    go_wp2
    go_ret2
    exact ⟨rfl, hb1⟩
  · have e1 : bnP h i = bA [] := by unfold bnP; rw [if_neg hk]
    have e2 : bnE h i = 2 := by unfold bnE; rw [if_neg hk]
    rw [e1, e2]
    have hk2 := fun a => hk (nmO'_is.2 a)
    clear e1 e2 hk ht
    by_cases h1 : h < 1
    · clear hk2
      go_enter Tryz.func32, Tryz.ntmps32
      go_wp2
      go_ret2
      exact ⟨rfl, Below.refl _ _⟩
    · by_cases h8 : 8 < h
      · clear hk2
        go_enter Tryz.func32, Tryz.ntmps32
        go_wp2
        go_ret2
        exact ⟨rfl, Below.refl _ _⟩
      · by_cases h0 : i < 0
        · clear hk2
          go_enter Tryz.func32, Tryz.ntmps32
          go_wp2
          go_ret2
          exact ⟨rfl, Below.refl _ _⟩
        · have hm : 1048576 ≤ i := by
            rcases Int.lt_or_le i 1048576 with hlt | hge
            · exact absurd ⟨by omega, by omega, by omega, hlt⟩ hk2
            · exact hge
          clear hk2
          go_enter Tryz.func32, Tryz.ntmps32
          go_wp2
          go_ret2
          exact ⟨rfl, Below.refl _ _⟩

end Go.Proofs.YtpocadbhajacaaaGreatDoor
