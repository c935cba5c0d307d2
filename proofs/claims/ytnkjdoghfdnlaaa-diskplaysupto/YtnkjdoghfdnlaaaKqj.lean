/-
  The document's disk: Create, Remove, Cut, Rename, Read.
-/
import Derived.Test.YtnkjdoghfdnlaaaKqi
namespace Go.Proofs.Ytnkjdoghfdnlaaa
open Go.RowKit
set_option linter.unusedVariables false

theorem crE_0 {rs : List Rw} {n : ByteArray} (h : crE rs n = 0) : nmB n = true ∧ play rs n = none := by
  unfold crE at h
  by_cases hn : nmB n = true
  · refine ⟨hn, ?_⟩
    rw [if_pos hn] at h
    cases hp : play rs n with
    | none => rfl
    | some x => simp [hp] at h
  · rw [if_neg hn] at h
    omega
theorem fE_0 {rs : List Rw} {n : ByteArray} (h : fE rs n = 0) : nmB n = true ∧ ∃ xs, play rs n = some xs ∧ fl (play rs) n = xs := by
  unfold fE at h
  by_cases hn : nmB n = true
  · refine ⟨hn, ?_⟩
    rw [if_pos hn] at h
    cases hp : play rs n with
    | none => simp [hp] at h
    | some x => exact ⟨x, rfl, by simp [fl, hp]⟩
  · rw [if_neg hn] at h
    omega
section
variable (r s : Nat) (rs : List Rw) (R : Rm) (w : World) (h : RkAt w r s rs R)
include h
set_option maxRecDepth 100000 in
theorem createR_any (n : ByteArray) (hwt : wt rs + 1 ≤ 16777216) : Calls Try.prog 11 #[.pointer (some ⟨r, 0, none⟩), .string n] w fun e w' => e = .returned (.int .i64 (crE rs n)) ∧ RoP w w' r s R (crS rs n) := by
  have HW := hide hwt
  have hwr := wrong_f r s rs R w h n (by omega)
  have HWR := hide hwr
  have HH := hide h
  clear h hwr hwt
  by_cases h0 : crE rs n = 0
  · obtain ⟨hn, hf⟩ := crE_0 h0
    have HLR : Hid (Lraw s (play rs) (rCr n)) := hide ⟨.inl ⟨n, rfl, hn, hf⟩, fun h2 => by cases h2⟩
    have e1 : crS rs n = rs ++ [rCr n] := by simp [crS, h0]
    rw [e1, h0]
    rw [h0] at HWR
    clear e1 h0 hn hf
    go_enter Try.func11, Try.ntmps11
    go_wp2_with (first | (go_at_call 39; refine HWR.out.mono ?_; rintro e w2 ⟨rfl, hb2⟩) | (refine step_bR1 rfl rfl ?_))
    refine (doR_any r s rs R (rCr n) (.slice none 0 0) _ (HH.out.below hb2) HLR.out (nobv _) (by have := HW.out; show wt rs + 0 + 1 ≤ _; omega)).mono ?_
    rintro e w3 ⟨rfl, hR⟩
    go_wp2
    go_ret
    exact ⟨rfl, hR.op hb2 (fun k hk => novb k _ hk)⟩
  · have e1 : crS rs n = rs := by simp [crS, h0]
    rw [e1]
    generalize crE rs n = E at HWR h0
    clear e1
    go_enter Try.func11, Try.ntmps11
    go_wp2_with (first | (go_at_call 39; refine HWR.out.mono ?_; rintro e w2 ⟨rfl, hb2⟩))
    go_ret
    exact ⟨rfl, RoP.below HH.out hb2⟩
set_option maxRecDepth 100000 in
theorem removeR_any (n : ByteArray) (hwt : wt rs + 1 ≤ 16777216) : Calls Try.prog 18 #[.pointer (some ⟨r, 0, none⟩), .string n] w fun e w' => e = .returned (.int .i64 (fE rs n)) ∧ RoP w w' r s R (rmS rs n) := by
  have HW := hide hwt
  have hwr := wrong_t r s rs R w h n (by omega)
  have HWR := hide hwr
  have HH := hide h
  clear h hwr hwt
  by_cases h0 : fE rs n = 0
  · obtain ⟨hn, xs, hf, _⟩ := fE_0 h0
    have HLR : Hid (Lraw s (play rs) (rRm n)) := hide ⟨.inr (.inr (.inr (.inl ⟨n, xs, rfl, hn, hf⟩))), fun h2 => by cases h2⟩
    have e1 : rmS rs n = rs ++ [rRm n] := by simp [rmS, h0]
    rw [e1, h0]
    rw [h0] at HWR
    clear e1 h0 hn hf
    go_enter Try.func18, Try.ntmps18
    go_wp2_with (first | (go_at_call 39; refine HWR.out.mono ?_; rintro e w2 ⟨rfl, hb2⟩) | (refine step_bR1 rfl rfl ?_))
    refine (doR_any r s rs R (rRm n) (.slice none 0 0) _ (HH.out.below hb2) HLR.out (nobv _) (by have := HW.out; show wt rs + 0 + 1 ≤ _; omega)).mono ?_
    rintro e w3 ⟨rfl, hR⟩
    go_wp2
    go_ret
    exact ⟨rfl, hR.op hb2 (fun k hk => novb k _ hk)⟩
  · have e1 : rmS rs n = rs := by simp [rmS, h0]
    rw [e1]
    generalize fE rs n = E at HWR h0
    clear e1
    go_enter Try.func18, Try.ntmps18
    go_wp2_with (first | (go_at_call 39; refine HWR.out.mono ?_; rintro e w2 ⟨rfl, hb2⟩))
    go_ret
    exact ⟨rfl, RoP.below HH.out hb2⟩
set_option maxRecDepth 100000 in
theorem cutR_any (n : ByteArray) (k : Int) (hwt : wt rs + 1 ≤ 16777216) : Calls Try.prog 16 #[.pointer (some ⟨r, 0, none⟩), .string n, .int .i64 k] w fun e w' => e = .returned (.int .i64 (cuE rs n k)) ∧ RoP w w' r s R (cuS rs n k) := by
  have HW := hide hwt
  have hwr := wrong_t r s rs R w h n (by omega)
  have HWR := hide hwr
  have HH := hide h
  clear h hwr hwt
  by_cases h0 : fE rs n = 0
  · obtain ⟨hn, xs, hf, hfl⟩ := fE_0 h0
    rw [h0] at HWR
    have HALL : Hid (∀ W : World, RkAt W r s rs R → Calls Try.prog 42 #[.pointer (some ⟨r, 0, none⟩), .string n] W fun e w' => e = .returned (.tuple #[.string (str xs), .bool true]) ∧ Below W.heap.size W w') := hide (fun W hW => by
      have := all_any r s rs R W hW n (by have := HW.out; omega)
      rw [hfl, hf] at this
      exact this)
    have hsz := str_size xs
    by_cases h1 : k < 0
    · have e1 : cuE rs n k = 2 := by simp [cuE, h0, h1]
      have e2 : cuS rs n k = rs := by simp [cuS, e1]
      rw [e1, e2]
      clear e1 e2 h0 hn hf hfl
      go_enter Try.func16, Try.ntmps16
      go_wp2_with (first | (go_at_call 39; refine HWR.out.mono ?_; rintro e w2 ⟨rfl, hb2⟩) | (go_at_call 42; refine (HALL.out _ (HH.out.below hb2)).mono ?_; rintro e w3 ⟨rfl, hb3⟩))
      go_ret
      exact ⟨rfl, RoP.below HH.out (hb2.trans (hb3.mono hb2.size))⟩
    · by_cases h2 : (xs.length : Int) < k
      · have e1 : cuE rs n k = 2 := by simp [cuE, h0, hfl, h2]
        have e2 : cuS rs n k = rs := by simp [cuS, e1]
        rw [e1, e2]
        have h2' : ((str xs).size : Int) < k := by rw [hsz]; exact h2
        clear e1 e2 h0 hn hf hfl h2 hsz
        go_enter Try.func16, Try.ntmps16
        go_wp2_with (first | (go_at_call 39; refine HWR.out.mono ?_; rintro e w2 ⟨rfl, hb2⟩) | (go_at_call 42; refine (HALL.out _ (HH.out.below hb2)).mono ?_; rintro e w3 ⟨rfl, hb3⟩))
        go_ret
        exact ⟨rfl, RoP.below HH.out (hb2.trans (hb3.mono hb2.size))⟩
      · have e1 : cuE rs n k = 0 := by simp only [cuE, h0, hfl, if_true]; rw [if_neg (by omega)]
        have h2' : ¬ ((str xs).size : Int) < k := by rw [hsz]; exact h2
        by_cases h3 : k < (xs.length : Int)
        · have e2 : cuS rs n k = rs ++ [rCu n k] := by
            simp only [cuS, e1, hfl]
            rw [if_pos ⟨trivial, h3⟩]
          rw [e1, e2]
          have HLR : Hid (Lraw s (play rs) (rCu n k)) := hide ⟨.inr (.inr (.inl ⟨n, k, xs, rfl, hn, hf, by omega, h3⟩)), fun h2 => by cases h2⟩
          have h3' : k < ((str xs).size : Int) := by rw [hsz]; exact h3
          clear e1 e2 h0 hn hf hfl h2 h3 hsz
          go_enter Try.func16, Try.ntmps16
          go_wp2_with (first | (go_at_call 39; refine HWR.out.mono ?_; rintro e w2 ⟨rfl, hb2⟩) | (go_at_call 42; refine (HALL.out _ (HH.out.below hb2)).mono ?_; rintro e w3 ⟨rfl, hb3⟩) | (refine step_bR3 rfl rfl rfl ?_))
          have hb2 := hb2.trans (hb3.mono hb2.size)
          clear hb3
          refine (doR_any r s rs R (rCu n k) (.slice none 0 0) _ (HH.out.below hb2) HLR.out (nobv _) (by have := HW.out; show wt rs + 0 + 1 ≤ _; omega)).mono ?_
          rintro e w3 ⟨rfl, hR⟩
          go_wp2
          go_ret
          exact ⟨rfl, hR.op hb2 (fun k hk => novb k _ hk)⟩
        · have e2 : cuS rs n k = rs := by
            simp only [cuS, hfl]
            rw [if_neg (fun hh => h3 hh.2)]
          rw [e1, e2]
          have h3' : ¬ k < ((str xs).size : Int) := by rw [hsz]; exact h3
          clear e1 e2 h0 hn hf hfl h2 h3 hsz
          go_enter Try.func16, Try.ntmps16
          go_wp2_with (first | (go_at_call 39; refine HWR.out.mono ?_; rintro e w2 ⟨rfl, hb2⟩) | (go_at_call 42; refine (HALL.out _ (HH.out.below hb2)).mono ?_; rintro e w3 ⟨rfl, hb3⟩))
          go_ret
          exact ⟨rfl, RoP.below HH.out (hb2.trans (hb3.mono hb2.size))⟩
  · have e1 : cuE rs n k = fE rs n := by simp [cuE, h0]
    have e2 : cuS rs n k = rs := by simp [cuS, e1, h0]
    rw [e1, e2]
    generalize fE rs n = E at HWR h0
    clear e1 e2
    go_enter Try.func16, Try.ntmps16
    go_wp2_with (first | (go_at_call 39; refine HWR.out.mono ?_; rintro e w2 ⟨rfl, hb2⟩))
    go_ret
    exact ⟨rfl, RoP.below HH.out hb2⟩
set_option maxRecDepth 100000 in
theorem renameR_any (n t : ByteArray) (hwt : wt rs + 1 ≤ 16777216) : Calls Try.prog 20 #[.pointer (some ⟨r, 0, none⟩), .string n, .string t] w fun e w' => e = .returned (.int .i64 (rnE rs n t)) ∧ RoP w w' r s R (rnS rs n t) := by
  have HW := hide hwt
  have hwr := wrong_t r s rs R w h n (by omega)
  have HWR := hide hwr
  have HH := hide h
  clear h hwr hwt
  by_cases ht : nmB t = true
  · by_cases hn : nmB n = true
    · have e0 : rnE rs n t = fE rs n := by simp [rnE, ht]
      by_cases h0 : fE rs n = 0
      · obtain ⟨_, xs, hf, hfl⟩ := fE_0 h0
        rw [h0] at HWR
        by_cases hnt : n = t
        · have e2 : rnS rs n t = rs := by simp [rnS, hnt]
          rw [e0, e2, h0]
          clear e0 e2 h0 hf hfl
          subst hnt
          go_enter Try.func20, Try.ntmps20
          go_wp2_with (first | (go_at_call 45; refine (nameR_any _ _).mono ?_; rintro e w ⟨rfl, rfl⟩) | (go_at_call 39; refine HWR.out.mono ?_; rintro e w2 ⟨rfl, hb2⟩))
          go_ret
          exact ⟨rfl, RoP.below HH.out hb2⟩
        · have e2 : rnS rs n t = rs ++ [rRn n t] := by simp [rnS, e0, h0, hnt]
          have HLR : Hid (Lraw s (play rs) (rRn n t)) := hide ⟨.inr (.inr (.inr (.inr ⟨n, t, xs, rfl, hn, ht, hf, hnt⟩))), fun h2 => by cases h2⟩
          rw [e0, e2, h0]
          have hq : (n.toList == t.toList) = false := beqS_ne hnt
          clear e0 e2 h0 hf hfl hnt
          go_enter Try.func20, Try.ntmps20
          go_wp2_with (first | (go_at_call 45; refine (nameR_any _ _).mono ?_; rintro e w ⟨rfl, rfl⟩) | (go_at_call 39; refine HWR.out.mono ?_; rintro e w2 ⟨rfl, hb2⟩) | (refine step_bR4 rfl rfl rfl ?_))
          refine (doR_any r s rs R (rRn n t) (.slice none 0 0) _ (HH.out.below hb2) HLR.out (nobv _) (by have := HW.out; show wt rs + 0 + 1 ≤ _; omega)).mono ?_
          rintro e w3 ⟨rfl, hR⟩
          go_wp2
          go_ret
          exact ⟨rfl, hR.op hb2 (fun k hk => novb k _ hk)⟩
      · have e2 : rnS rs n t = rs := by simp [rnS, e0, h0]
        rw [e0, e2]
        generalize fE rs n = E at HWR h0
        clear e0 e2
        go_enter Try.func20, Try.ntmps20
        go_wp2_with (first | (go_at_call 45; refine (nameR_any _ _).mono ?_; rintro e w ⟨rfl, rfl⟩) | (go_at_call 39; refine HWR.out.mono ?_; rintro e w2 ⟨rfl, hb2⟩))
        go_ret
        exact ⟨rfl, RoP.below HH.out hb2⟩
    · have hn' : nmB n = false := by simpa using hn
      have e0 : rnE rs n t = 2 := by simp [rnE, ht, fE, hn']
      have e2 : rnS rs n t = rs := by simp [rnS, e0]
      rw [e0, e2]
      clear e0 e2 hn
      go_enter Try.func20, Try.ntmps20
      go_wp2_with (first | (go_at_call 45; refine (nameR_any _ _).mono ?_; rintro e w ⟨rfl, rfl⟩))
      go_ret
      exact ⟨rfl, RoP.below HH.out (Below.refl _ _)⟩
  · have ht' : nmB t = false := by simpa using ht
    have e0 : rnE rs n t = 2 := by simp [rnE, ht']
    have e2 : rnS rs n t = rs := by simp [rnS, e0]
    rw [e0, e2]
    clear e0 e2 ht
    by_cases hn : nmB n = true
    · go_enter Try.func20, Try.ntmps20
      go_wp2_with (first | (go_at_call 45; refine (nameR_any _ _).mono ?_; rintro e w ⟨rfl, rfl⟩))
      go_ret
      exact ⟨rfl, RoP.below HH.out (Below.refl _ _)⟩
    · have hn' : nmB n = false := by simpa using hn
      clear hn
      go_enter Try.func20, Try.ntmps20
      go_wp2_with (first | (go_at_call 45; refine (nameR_any _ _).mono ?_; rintro e w ⟨rfl, rfl⟩))
      go_ret
      exact ⟨rfl, RoP.below HH.out (Below.refl _ _)⟩
end

end Go.Proofs.Ytnkjdoghfdnlaaa
