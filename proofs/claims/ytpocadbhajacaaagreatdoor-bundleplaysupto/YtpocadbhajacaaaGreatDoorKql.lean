/-
  Read of both, Size: the walks.
-/
import Derived.Test.YtpocadbhajacaaaGreatDoorKqk
namespace Go.Proofs.YtpocadbhajacaaaGreatDoor
open Go.RowKit
set_option linter.unusedVariables false

section
variable (d s : Nat) (rs : List Rw) (D : Dm) (w : World) (h : DkAt w d s rs D)
include h
set_option maxRecDepth 100000 in
theorem size_any (n : ByteArray) : Calls Tryz.prog 65 #[.pointer (some ⟨d, 0, none⟩), .string n] w fun e w' => e = .returned (.tuple #[.int .i64 (if fE rs n = 0 then ((fl (play rs) n).length : Int) else 0), .int .i64 (fE rs n)]) ∧ w' = w := by
  by_cases hn : nmB n = true
  · cases hf : play rs n with
    | none =>
      have e0 : fE rs n = 121 := by simp [fE, hn, hf]
      rw [e0]
      have HH := hide h
      have HF := hide hf
      clear h e0 hf
      go_enter Tryz.func65, Tryz.ntmps65
      go_wp2_with (go_at_call 60; refine (file_no d s rs D _ HH.out _ hn HF.out).mono ?_; rintro e w ⟨rfl, rfl⟩)
      go_ret2
      exact ⟨rfl, rfl⟩
    | some xs =>
      obtain ⟨v, hv, ho, _⟩ := h.fil.get hf
      obtain ⟨av, cv, rfl⟩ := ho.slice
      have e0 : fE rs n = 0 := by simp [fE, hn, hf]
      have e1 : fl (play rs) n = xs := by simp [fl, hf]
      rw [e0, e1]
      have HH := hide h
      clear h e0 e1 hf ho
      go_enter Tryz.func65, Tryz.ntmps65
      go_wp2_with (go_at_call 60; refine (file_ok d s rs D _ HH.out _ _ hn hv).mono ?_; rintro e w ⟨rfl, rfl⟩)
      go_ret2
      exact ⟨rfl, rfl⟩
  · have hn' : nmB n = false := by simpa using hn
    have e0 : fE rs n = 2 := by simp [fE, hn']
    rw [e0]
    have HH := hide h
    clear h e0 hn
    go_enter Tryz.func65, Tryz.ntmps65
    go_wp2_with (go_at_call 60; refine (file_bad d s rs D _ HH.out _ hn').mono ?_; rintro e w ⟨rfl, rfl⟩)
    go_ret2
    exact ⟨rfl, rfl⟩
set_option maxRecDepth 100000 in
set_option maxHeartbeats 1000000 in
theorem read_any (n : ByteArray) (at' k : Int) (hwt : wt rs ≤ 1099511000000) : Calls Tryz.prog 50 #[.pointer (some ⟨d, 0, none⟩), .string n, .int .i64 at', .int .i64 k] w fun e w' => ∃ v, e = .returned (.tuple #[v, .int .i64 (rqE rs n at' k)]) ∧ Own w' w.heap.size v (rqB rs n at' k) ∧ Below w.heap.size w w' := by
  by_cases hn : nmB n = true
  · cases hf : play rs n with
    | none =>
      have e0 : fE rs n = 121 := by simp [fE, hn, hf]
      have e1 : rqE rs n at' k = 121 := by simp [rqE, e0]
      have e2 : rqB rs n at' k = [] := by simp [rqB, e1]
      rw [e1, e2]
      have HH := hide h
      have HF := hide hf
      clear h e0 e1 e2 hf
      go_enter Tryz.func50, Tryz.ntmps50
      go_wp2_with (go_at_call 60; refine (file_no d s rs D _ HH.out _ hn HF.out).mono ?_; rintro e w ⟨rfl, rfl⟩)
      go_ret2
      exact ⟨_, rfl, Own.nil _ _, Below.refl _ _⟩
    | some xs =>
      obtain ⟨v, hv, ho, hB⟩ := h.fil.get hf
      have hxw := play_wt rs n
      have e0 : fE rs n = 0 := by simp [fE, hn, hf]
      have ex : fl (play rs) n = xs := by simp [fl, hf]
      rw [ex] at hxw
      obtain ⟨av, cv, rfl, hs⟩ := ho.sl' hB (by omega)
      have hcap := hs.hcap
      have HH := hide h
      have HS := hide hs
      by_cases hbad : at' < 0 ∨ (xs.length : Int) < at' ∨ k < 0
      · have e1 : rqE rs n at' k = 2 := by simp only [rqE, e0, ex, if_true]; rw [if_pos hbad]
        have e2 : rqB rs n at' k = [] := by simp [rqB, e1]
        rw [e1, e2]
        generalize xs.length = L at *
        clear h e0 e1 e2 hf ho hs ex hxw hcap HS hwt
        by_cases h1 : at' < 0
        · clear hbad
          go_enter Tryz.func50, Tryz.ntmps50
          go_wp2_with (go_at_call 60; refine (file_ok d s rs D _ HH.out _ _ hn hv).mono ?_; rintro e w ⟨rfl, rfl⟩)
          go_ret2
          exact ⟨_, rfl, Own.nil _ _, Below.refl _ _⟩
        · by_cases h2 : (L : Int) < at'
          · clear hbad
            go_enter Tryz.func50, Tryz.ntmps50
            go_wp2_with (go_at_call 60; refine (file_ok d s rs D _ HH.out _ _ hn hv).mono ?_; rintro e w ⟨rfl, rfl⟩)
            go_ret2
            exact ⟨_, rfl, Own.nil _ _, Below.refl _ _⟩
          · have h3 : k < 0 := by omega
            clear hbad
            go_enter Tryz.func50, Tryz.ntmps50
            go_wp2_with (go_at_call 60; refine (file_ok d s rs D _ HH.out _ _ hn hv).mono ?_; rintro e w ⟨rfl, rfl⟩)
            go_ret2
            exact ⟨_, rfl, Own.nil _ _, Below.refl _ _⟩
      · have e1 : rqE rs n at' k = 0 := by simp only [rqE, e0, ex, if_true]; rw [if_neg hbad]
        obtain ⟨A, rfl⟩ : ∃ A : Nat, at' = (A : Int) := ⟨at'.toNat, by omega⟩
        obtain ⟨K, rfl⟩ : ∃ K : Nat, k = (K : Int) := ⟨k.toNat, by omega⟩
        have hA : A ≤ xs.length := by omega
        have e2 : rqB rs n A K = (xs.drop A).take (min K (xs.length - A)) := by
          simp only [rqB, e1, ex, if_true, Int.toNat_natCast]
        rw [e1, e2]
        obtain ⟨a1, hfr, _, hfs⟩ := hs.from' hA
        obtain ⟨M, hM⟩ : ∃ M, M = min K (xs.length - A) := ⟨_, rfl⟩
        obtain ⟨hto, hts⟩ := (hfs w hs).to' (k := M) (by omega)
        rw [← hM]
        have HTS := hide (hts w (hfs w hs))
        have h1 : ¬ (A : Int) < 0 := by omega
        have h2 : ¬ (xs.length : Int) < (A : Int) := by omega
        have h3 : ¬ (K : Int) < 0 := by omega
        obtain ⟨f1, f2⟩ := wrap_sub hA (by omega)
        have hcM : (M : Int) ≤ ((cv - A : Nat) : Int) := by omega
        clear h e0 e1 e2 hf ho hs ex hxw hwt HS hbad hfs hts hcap
        generalize xs.length = L at *
        have hM2 : (K ≤ L - A ∧ M = K) ∨ (¬ K ≤ L - A ∧ M = L - A) := by omega
        clear hM hB
        rcases hM2 with ⟨hK, rfl⟩ | ⟨hK, rfl⟩
        · have hKi : (M : Int) ≤ ((L - A : Nat) : Int) := by omega
          have hKn : ¬ ((L - A : Nat) : Int) < (M : Int) := by omega
          clear hK
          go_enter Tryz.func50, Tryz.ntmps50
          go_wp2_with (go_at_call 60; refine (file_ok d s rs D _ HH.out _ _ hn hv).mono ?_; rintro e w ⟨rfl, rfl⟩)
          refine (clone_any _ _ _ _ _ HTS.out).mono ?_
          rintro e w2 ⟨v2, rfl, ho2, hb2⟩
          go_wp2
          go_ret2
          exact ⟨_, rfl, ho2, hb2⟩
        · have hKi : ¬ (K : Int) ≤ ((L - A : Nat) : Int) := by omega
          have hKn : ((L - A : Nat) : Int) < (K : Int) := by omega
          clear hK
          go_enter Tryz.func50, Tryz.ntmps50
          go_wp2_with (go_at_call 60; refine (file_ok d s rs D _ HH.out _ _ hn hv).mono ?_; rintro e w ⟨rfl, rfl⟩)
          refine (clone_any _ _ _ _ _ HTS.out).mono ?_
          rintro e w2 ⟨v2, rfl, ho2, hb2⟩
          go_wp2
          go_ret2
          exact ⟨_, rfl, ho2, hb2⟩
  · have hn' : nmB n = false := by simpa using hn
    have e0 : fE rs n = 2 := by simp [fE, hn']
    have e1 : rqE rs n at' k = 2 := by simp [rqE, e0]
    have e2 : rqB rs n at' k = [] := by simp [rqB, e1]
    rw [e1, e2]
    have HH := hide h
    clear h e0 e1 e2 hn
    go_enter Tryz.func50, Tryz.ntmps50
    go_wp2_with (go_at_call 60; refine (file_bad d s rs D _ HH.out _ hn').mono ?_; rintro e w ⟨rfl, rfl⟩)
    go_ret2
    exact ⟨_, rfl, Own.nil _ _, Below.refl _ _⟩
end

end Go.Proofs.YtpocadbhajacaaaGreatDoor
