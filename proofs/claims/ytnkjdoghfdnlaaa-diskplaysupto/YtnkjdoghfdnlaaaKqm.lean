/-
  The document's Read.
-/
import Derived.Test.YtnkjdoghfdnlaaaKql
namespace Go.Proofs.Ytnkjdoghfdnlaaa
open Go.RowKit
set_option linter.unusedVariables false

section
variable (r s : Nat) (rs : List Rw) (R : Rm) (w : World) (h : RkAt w r s rs R)
include h
set_option maxRecDepth 100000 in
set_option maxHeartbeats 1000000 in
theorem readR_any (n : ByteArray) (at' k : Int) (hwt : wt rs ≤ 16777216) : Calls Try.prog 22 #[.pointer (some ⟨r, 0, none⟩), .string n, .int .i64 at', .int .i64 k] w fun e w' => e = .returned (.tuple #[.string (str (rqB rs n at' k)), .int .i64 (rqE rs n at' k)]) ∧ Below w.heap.size w w' := by
  have HW := hide hwt
  have hwr := wrong_t r s rs R w h n (by omega)
  have HWR := hide hwr
  have HH := hide h
  have hxw := play_wt rs n
  clear h hwr
  by_cases h0 : fE rs n = 0
  · obtain ⟨hn, xs, hf, hfl⟩ := fE_0 h0
    rw [h0] at HWR
    rw [hfl] at hxw
    have HALL : Hid (∀ W : World, RkAt W r s rs R → Calls Try.prog 42 #[.pointer (some ⟨r, 0, none⟩), .string n] W fun e w' => e = .returned (.tuple #[.string (str xs), .bool true]) ∧ Below W.heap.size W w') := hide (fun W hW => by
      have := all_any r s rs R W hW n HW.out
      rw [hfl, hf] at this
      exact this)
    have hsz := str_size xs
    by_cases hbad : at' < 0 ∨ (xs.length : Int) < at' ∨ k < 0
    · have e1 : rqE rs n at' k = 2 := by simp only [rqE, h0, hfl, if_true]; rw [if_pos hbad]
      have e2 : rqB rs n at' k = [] := by simp [rqB, e1]
      rw [e1, e2]
      rw [← hsz] at hbad
      clear hwt e1 e2 h0 hn hf hfl hxw hsz
      generalize str xs = X at HALL hbad
      by_cases h1 : at' < 0
      · clear hbad
        go_enter Try.func22, Try.ntmps22
        go_wp2_with (first | (go_at_call 39; refine HWR.out.mono ?_; rintro e w2 ⟨rfl, hb2⟩) | (go_at_call 42; refine (HALL.out _ (HH.out.below hb2)).mono ?_; rintro e w3 ⟨rfl, hb3⟩))
        go_ret2
        exact ⟨rfl, hb2.trans (hb3.mono hb2.size)⟩
      · by_cases h2 : (X.size : Int) < at'
        · clear hbad
          go_enter Try.func22, Try.ntmps22
          go_wp2_with (first | (go_at_call 39; refine HWR.out.mono ?_; rintro e w2 ⟨rfl, hb2⟩) | (go_at_call 42; refine (HALL.out _ (HH.out.below hb2)).mono ?_; rintro e w3 ⟨rfl, hb3⟩))
          go_ret2
          exact ⟨rfl, hb2.trans (hb3.mono hb2.size)⟩
        · have h3 : k < 0 := by omega
          clear hbad
          go_enter Try.func22, Try.ntmps22
          go_wp2_with (first | (go_at_call 39; refine HWR.out.mono ?_; rintro e w2 ⟨rfl, hb2⟩) | (go_at_call 42; refine (HALL.out _ (HH.out.below hb2)).mono ?_; rintro e w3 ⟨rfl, hb3⟩))
          go_ret2
          exact ⟨rfl, hb2.trans (hb3.mono hb2.size)⟩
    · have e1 : rqE rs n at' k = 0 := by simp only [rqE, h0, hfl, if_true]; rw [if_neg hbad]
      obtain ⟨A, rfl⟩ : ∃ A : Nat, at' = (A : Int) := ⟨at'.toNat, by omega⟩
      obtain ⟨K, rfl⟩ : ∃ K : Nat, k = (K : Int) := ⟨k.toNat, by omega⟩
      have hA : A ≤ xs.length := by omega
      have e2 : rqB rs n A K = (xs.drop A).take (min K (xs.length - A)) := by
        simp only [rqB, e1, hfl, if_true, Int.toNat_natCast]
      rw [e1, e2]
      obtain ⟨M, hM⟩ : ∃ M, M = min K (xs.length - A) := ⟨_, rfl⟩
      rw [← hM]
      have hmid : str ((xs.drop A).take M) = (str xs).extract A (A + M) := by rw [str_mid, Nat.add_sub_cancel_left]
      rw [hmid]
      rw [← hsz] at hA hM hxw
      clear hmid e1 e2 h0 hn hf hfl hbad hwt hsz
      generalize str xs = X at HALL hA hM hxw ⊢
      generalize hL : X.size = L at *
      have h1 : ¬ (A : Int) < 0 := by omega
      have h2 : ¬ (L : Int) < (A : Int) := by omega
      have h3 : ¬ (K : Int) < 0 := by omega
      have hM2 : (¬ ((L - A : Nat) : Int) < (K : Int) ∧ M = K) ∨ (((L - A : Nat) : Int) < (K : Int) ∧ M = L - A) := by omega
      have hAM : A + M ≤ L := by omega
      have hcut : ∀ W : World, (Instr.slice 9 (.string X) (some (.int .i64 (A : Int))) (some (.int .i64 ((A : Int) + (M : Int)))) none).run Try.prog W = .ok (.string (X.extract A (A + M))) W := fun W => by
        have hq := run_slice_string W 9 X .i64 .i64 (A : Int) ((A : Int) + (M : Int)) Try.underlying9 (by omega) (by omega) (by rw [hL]; omega)
        rw [hq]
        congr 3
      have HF1 := hide (wrap_sub hA (by have := HW.out; omega))
      have HF3 := hide (wrapN ((A : Int) + (M : Int)) (by omega) (by have := HW.out; omega))
      clear hM hxw hAM hA
      generalize hEX : X.extract A (A + M) = EX at *
      clear hEX
      rcases hM2 with ⟨hK, rfl⟩ | ⟨hK, rfl⟩
      · obtain ⟨f1, f2⟩ := HF1.out
        obtain ⟨f3, f4⟩ := HF3.out
        go_enter Try.func22, Try.ntmps22
        go_wp2_with (first | (go_at_call 39; refine HWR.out.mono ?_; rintro e w2 ⟨rfl, hb2⟩) | (go_at_call 42; refine (HALL.out _ (HH.out.below hb2)).mono ?_; rintro e w3 ⟨rfl, hb3⟩))
        go_ret2
        exact ⟨rfl, hb2.trans (hb3.mono hb2.size)⟩
      · obtain ⟨f1, f2⟩ := HF1.out
        obtain ⟨f3, f4⟩ := HF3.out
        go_enter Try.func22, Try.ntmps22
        go_wp2_with (first | (go_at_call 39; refine HWR.out.mono ?_; rintro e w2 ⟨rfl, hb2⟩) | (go_at_call 42; refine (HALL.out _ (HH.out.below hb2)).mono ?_; rintro e w3 ⟨rfl, hb3⟩))
        go_ret2
        exact ⟨rfl, hb2.trans (hb3.mono hb2.size)⟩
  · have e1 : rqE rs n at' k = fE rs n := by simp [rqE, h0]
    have e2 : rqB rs n at' k = [] := by simp [rqB, e1, h0]
    rw [e1, e2]
    generalize fE rs n = E at HWR h0
    clear e1 e2 hxw hwt
    go_enter Try.func22, Try.ntmps22
    go_wp2_with (first | (go_at_call 39; refine HWR.out.mono ?_; rintro e w2 ⟨rfl, hb2⟩))
    go_ret2
    exact ⟨rfl, hb2⟩
end

end Go.Proofs.Ytnkjdoghfdnlaaa
