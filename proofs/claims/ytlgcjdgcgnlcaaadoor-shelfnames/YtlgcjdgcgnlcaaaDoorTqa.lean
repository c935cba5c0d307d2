/-
  Texts as the document reads and writes them: plain, index.
-/
import Derived.Test.YtlgcjdgcgnlcaaaDoorTpb
import Derived.Test.YtlgcjdgcgnlcaaaDoorLzc
namespace Go.Proofs.YtlgcjdgcgnlcaaaDoor
open Go.RowKit
set_option linter.unusedVariables false
set_option linter.unusedSimpArgs false

/-- Noughts ahead struck. -/
def stz : List UInt8 → List UInt8
  | [] => []
  | [a] => [a]
  | a :: b :: l => if a = 48 then stz (b :: l) else a :: b :: l
theorem stz_ne : ∀ l : List UInt8, l ≠ [] → stz l ≠ []
  | [], h => absurd rfl h
  | [a], _ => by simp [stz]
  | a :: b :: l, _ => by
    unfold stz
    split
    · exact stz_ne (b :: l) (by simp)
    · simp
theorem stz_head : ∀ l : List UInt8, 1 < (stz l).length → (stz l).head? ≠ some 48
  | [], h => by simp [stz] at h
  | [a], h => by simp [stz] at h
  | a :: b :: l, h => by
    unfold stz at h ⊢
    split at h
    · rename_i e; rw [if_pos e]; exact stz_head (b :: l) h
    · rename_i e; rw [if_neg e]; simpa using e
theorem stz_dec : ∀ l : List UInt8, Lib.decFrom 0 (stz l) = Lib.decFrom 0 l
  | [] => rfl
  | [a] => rfl
  | a :: b :: l => by
    unfold stz
    split
    · rename_i e
      subst e
      rw [stz_dec (b :: l)]
      rfl
    · rfl
theorem stz_len : ∀ l : List UInt8, (stz l).length ≤ l.length
  | [] => Nat.le_refl _
  | [a] => Nat.le_refl _
  | a :: b :: l => by
    unfold stz
    split
    · have := stz_len (b :: l); simp only [List.length_cons] at *; omega
    · exact Nat.le_refl _
theorem stz_num {l : List UInt8} {v : Nat} (hne : l ≠ []) (hd : Lib.decFrom 0 l = some v) (hv : v ≤ 281474976710656) : nmO (stz l) = some v :=
  nmO_of hv (dec_canon _ _ _ (Nat.le_refl _) (stz_ne l hne) (stz_head l) (by rw [stz_dec]; exact hd))
theorem stz_same {l : List UInt8} (h : ¬ (1 < l.length ∧ l.head? = some 48)) : stz l = l := by
  match l with
  | [] => rfl
  | [a] => rfl
  | a :: b :: l =>
    unfold stz
    rw [if_neg (fun e => h ⟨by simp, by simp [e]⟩)]
theorem stz_tail {l : List UInt8} (h1 : 1 < l.length) (h2 : l.head? = some 48) : stz (l.drop 1) = stz l := by
  match l with
  | [] => simp at h1
  | [a] => simp at h1
  | a :: b :: l =>
    simp at h2
    conv => rhs; unfold stz
    rw [if_pos h2]
    rfl
def strLen : Value → Nat
  | .string s => s.size
  | _ => 0
theorem get0 {q : List UInt8} (h : 0 < q.length) : ∃ b t, q = b :: t := by
  match q with
  | [] => simp at h
  | b :: t => exact ⟨b, t, rfl⟩
/-- Groups of three. -/
def grpx : List UInt8 → List UInt8
  | a :: b :: c :: l => 120 :: a :: b :: c :: 47 :: grpx l
  | _ => []
theorem grpx_app : ∀ (A B : List UInt8), A.length % 3 = 0 → grpx (A ++ B) = grpx A ++ grpx B
  | [], B, _ => rfl
  | [a], B, h => by simp at h
  | [a, b], B, h => by simp at h
  | a :: b :: c :: l, B, h => by
    have ih := grpx_app l B (by simp only [List.length_cons] at h; omega)
    show 120 :: a :: b :: c :: 47 :: grpx (l ++ B) = (120 :: a :: b :: c :: 47 :: grpx l) ++ grpx B
    rw [ih]
    rfl
theorem grpx_d3 (n : Nat) : grpx (d3 n) = 120 :: d3 n ++ [47] := rfl
theorem gD_three : ∀ (k r : Nat), (gD k r).length % 3 = 0
  | 0, r => rfl
  | k + 1, r => by
    unfold gD
    split
    · rfl
    · have := gD_three k (r / 1000)
      rw [List.length_append, d3_length]
      omega
theorem grpx_gD : ∀ (k r : Nat), grpx (gD k r) = ixF k r
  | 0, r => rfl
  | k + 1, r => by
    unfold gD ixF
    split
    · rfl
    · rw [grpx_app _ _ (gD_three k _), grpx_gD k (r / 1000), grpx_d3]
/-- Digits with noughts ahead up to a third. -/
def pd3 (l : List UInt8) : List UInt8 := List.replicate ((3 - l.length % 3) % 3) 48 ++ l
theorem pd3_app (A : List UInt8) (n : Nat) : pd3 (A ++ d3 n) = pd3 A ++ d3 n := by
  unfold pd3
  rw [List.length_append, d3_length, show (A.length + 3) % 3 = A.length % 3 by omega, List.append_assoc]
theorem dec_three {n : Nat} (h : 1000 ≤ n) : Lib.decDigits n = Lib.decDigits (n / 1000) ++ d3 (n % 1000) := by
  rw [dec_snoc (by omega), dec_snoc (by omega), dec_snoc (by omega)]
  have e1 : n / 10 / 10 / 10 = n / 1000 := by omega
  have e2 : n / 10 / 10 % 10 = n % 1000 / 100 := by omega
  have e3 : n / 10 % 10 = n % 1000 / 10 % 10 := by omega
  have e4 : n % 10 = n % 1000 % 10 := by omega
  rw [e1, e2, e3, e4]
  simp [d3]
theorem pad_small {n : Nat} (h : n < 1000) : pd3 (Lib.decDigits n) = d3 n := by
  by_cases h1 : n < 10
  · rw [Lib.decDigits_one h1]
    have e1 : n / 100 = 0 := by omega
    have e2 : n / 10 % 10 = 0 := by omega
    have e3 : n % 10 = n := by omega
    unfold d3
    rw [e1, e2, e3]
    rfl
  · by_cases h2 : n < 100
    · rw [dec_snoc h1, Lib.decDigits_one (by omega)]
      have e1 : n / 100 = 0 := by omega
      have e2 : n / 10 % 10 = n / 10 := by omega
      unfold d3
      rw [e1, e2]
      rfl
    · rw [dec_snoc h1, dec_snoc (by omega), Lib.decDigits_one (by omega)]
      have e1 : n / 10 / 10 = n / 100 := by omega
      simp [pd3, d3, e1]
theorem gD_pad : ∀ (k r : Nat), 0 < r → r < 1000 ^ k → gD k r = pd3 (Lib.decDigits r)
  | 0, r, h0, h => by simp at h; omega
  | k + 1, r, h0, h => by
    unfold gD
    rw [if_neg (by omega)]
    by_cases hr : r < 1000
    · have e1 : r / 1000 = 0 := by omega
      have e2 : r % 1000 = r := by omega
      rw [e1, e2, pad_small hr]
      cases k <;> simp [gD]
    · rw [dec_three (by omega), pd3_app, gD_pad k (r / 1000) (by omega) (by rw [Nat.pow_succ] at h; omega)]
theorem ixD_pad {n : Nat} (h : n < 1000000000000000000) : ixD n = pd3 (Lib.decDigits n) := by
  unfold ixD
  by_cases hr : n < 1000
  · have e1 : n / 1000 = 0 := by omega
    have e2 : n % 1000 = n := by omega
    rw [e1, e2, pad_small hr]
    rfl
  · rw [dec_three (by omega), pd3_app, gD_pad 5 (n / 1000) (by omega) (by omega)]
theorem pd3_step {l : List UInt8} (h : l.length % 3 ≠ 0) : pd3 (48 :: l) = pd3 l := by
  unfold pd3
  have e1 : (3 - (48 :: l).length % 3) % 3 + 1 = (3 - l.length % 3) % 3 := by simp only [List.length_cons]; omega
  rw [← e1, List.replicate_succ', List.append_assoc]
  rfl
theorem pd3_done {l : List UInt8} (h : l.length % 3 = 0) : pd3 l = l := by
  unfold pd3
  rw [h]
  rfl
theorem pd3_len (l : List UInt8) : l.length ≤ (pd3 l).length := by
  unfold pd3
  rw [List.length_append]
  omega
theorem ixD_len (n : Nat) : (ixD n).length ≤ 18 := by
  have := gD_len 5 (n / 1000)
  simp only [ixD, List.length_append, d3_length]
  omega
theorem slice_to (l : List UInt8) (k : Nat) (K : Int) (hK : K = (k : Int)) (hk : k ≤ l.length) (v : World) : (Instr.slice 9 (.string (bA l)) none (some (.int .i64 K)) none).run Tryd.prog v = .ok (.string (bA (l.take k))) v := by
  subst hK
  rw [run_slice_string_to_if v 9 (bA l) .i64 (k : Int) Tryd.underlying9, if_pos ⟨by omega, by rw [bA_size]; omega⟩]
  congr 2
  apply eq_of_strL
  rw [strL_bA]
  show (ByteArray.extract (bA l) 0 (k : Int).toNat).data.toList = _
  rw [ByteArray.data_extract, Array.toList_extract, Int.toNat_natCast]
  show List.extract l 0 k = _
  simp only [List.extract, List.drop_zero, Nat.sub_zero]
set_option maxRecDepth 100000 in
set_option maxHeartbeats 1000000 in
theorem indexR_any (n : Nat) (w : World) (hn : n ≤ 281474976710656) : Calls Tryd.prog 41 #[.int .i64 (n : Int)] w fun r w' => r = .returned (.string (bA (ixP n))) ∧ Below w.heap.size w w' := by
  have HD := hide (digits_any n n w (Nat.le_refl _) (by omega))
  have HX := hide (ixD_pad (n := n) (by omega))
  have hdl := dec_len n (by omega)
  go_enter Tryd.func41, Tryd.ntmps41
  go_wp2_with fail
  refine HD.out.mono ?_
  rintro r w1 ⟨rfl, e1⟩
  replace e1 := e1.symm
  subst e1
  clear HD
  generalize Lib.decDigits n = d0 at *
  go_wp2_with fail
  go_loopw [3] (fun v wr => ∃ q : List UInt8, v = .string (bA q) ∧ q.length ≤ 30 ∧ Hid (pd3 q = ixD n) ∧ Hid (Below w.heap.size w wr)) (fun v _ => (3 - strLen v % 3) % 3)
  case atStart => exact ⟨d0, rfl, by omega, hide HX.out.symm, hide (Below.refl _ _)⟩
  case round =>
    obtain ⟨q, rfl, hq, HQ, HB⟩ := hrel
    have hsz := bA_size q
    obtain ⟨z, hz⟩ : ∃ z, q.length % 3 = z := ⟨_, rfl⟩
    have e3 : ((q.length : Nat) : Int).tmod 3 = (z : Int) := by rw [Int.tmod_eq_emod_of_nonneg (by omega)]; omega
    have e4 : ((q.length : Nat) : Int) % 3 = (z : Int) := by omega
    by_cases h0 : z = 0
    · subst h0
      have e : q = ixD n := by rw [← HQ.out, pd3_done hz]
      have HE : Hid (q = gD 5 (n / 1000) ++ d3 (n % 1000)) := hide e
      have HF : Hid (grpx (gD 5 (n / 1000)) ++ d3 (n % 1000) = ixP n) := hide (by rw [grpx_gD]; rfl)
      have H3 : Hid ((gD 5 (n / 1000)).length % 3 = 0) := hide (gD_three _ _)
      have H4 := hide (d3_length (n % 1000))
      clear e HQ
      generalize gD 5 (n / 1000) = A0 at *
      generalize d3 (n % 1000) = B0 at *
      have hA18 : A0.length + 3 ≤ 30 := by
        have := congrArg List.length HE.out
        rw [List.length_append, H4.out] at this
        omega
      go_wp2_with fail
      clear hz e3 e4 hsz
      go_loopw [3, 4] (fun v o wr => ∃ A O : List UInt8, v = .string (bA (A ++ B0)) ∧ o = .string (bA O) ∧ A.length + 3 ≤ 30 ∧ O.length + 5 * A.length ≤ 300 ∧ Hid (A.length % 3 = 0) ∧ Hid ((O ++ grpx A) ++ B0 = ixP n) ∧ Hid (Below w.heap.size w wr)) (fun v _ _ => strLen v)
      case atStart => exact ⟨A0, [], by rw [HE.out], rfl, hA18, by simp; omega, H3, hide (by simpa using HF.out), HB⟩
      case round =>
        obtain ⟨A, O, rfl, rfl, hA, hO, HA3, HG, HB2⟩ := hrel
        clear HB HE HF H3 hA18 hq
        have hb3 := H4.out
        by_cases hc : A = []
        · subst hc
          have hsz := bA_size B0
          rw [hb3] at hsz
          have HO : Hid (O ++ B0 = ixP n ∧ O.length + B0.length ≤ 9000) := hide ⟨by have := HG.out; simpa [grpx] using this, by rw [hb3]; simp at hO; omega⟩
          rw [List.nil_append]
          go_wp2_with (refine step_addR (p := O) (q := B0) (r := ixP n) rfl rfl rfl HO.out ?_)
          go_ret
          exact ⟨rfl, HB2.out⟩
        · obtain ⟨a, b, c, A', rfl⟩ : ∃ a b c l, A = a :: b :: c :: l := by
            have h3 := HA3.out
            match A, hc, h3 with
            | [], h, _ => exact absurd rfl h
            | [a], _, h => simp at h
            | [a, b], _, h => simp at h
            | a :: b :: c :: l, _, _ => exact ⟨a, b, c, l, rfl⟩
          have x1 := slice_to ((a :: b :: c :: A') ++ B0) 3 3 rfl (by simp)
          have x2 := slice_str ((a :: b :: c :: A') ++ B0) 3 3 rfl (by simp)
          rw [show ((a :: b :: c :: A') ++ B0).take 3 = [a, b, c] from rfl] at x1
          rw [show ((a :: b :: c :: A') ++ B0).drop 3 = A' ++ B0 from rfl] at x2
          have hsz := bA_size ((a :: b :: c :: A') ++ B0)
          rw [List.length_append, List.length_cons, List.length_cons, List.length_cons, hb3] at hsz
          simp only [List.length_cons] at hA hO
          have HA4 : Hid (A'.length % 3 = 0) := hide (by have := HA3.out; simp only [List.length_cons] at this; omega)
          obtain ⟨O1, h1⟩ : ∃ x, O ++ [120] = x := ⟨_, rfl⟩
          obtain ⟨O2, h2⟩ : ∃ x, O1 ++ [a, b, c] = x := ⟨_, rfl⟩
          obtain ⟨O3, h3⟩ : ∃ x, O2 ++ [47] = x := ⟨_, rfl⟩
          have l1 : O1.length = O.length + 1 := by rw [← h1]; simp
          have l2 : O2.length = O.length + 4 := by rw [← h2]; simp; omega
          have l3 : O3.length = O.length + 5 := by rw [← h3]; simp; omega
          have W1 : Hid (O ++ [120] = O1 ∧ O.length + ([120] : List UInt8).length ≤ 9000) := hide ⟨h1, by simp; omega⟩
          have W2 : Hid (O1 ++ [a, b, c] = O2 ∧ O1.length + ([a, b, c] : List UInt8).length ≤ 9000) := hide ⟨h2, by simp; omega⟩
          have W3 : Hid (O2 ++ [47] = O3 ∧ O2.length + ([47] : List UInt8).length ≤ 9000) := hide ⟨h3, by simp; omega⟩
          have HG2 : Hid ((O3 ++ grpx A') ++ B0 = ixP n) := hide (by
            rw [← HG.out, ← h3, ← h2, ← h1]
            simp [grpx])
          have HS4 := hide (bA_size (A' ++ B0))
          generalize hS : (a :: b :: c :: A') ++ B0 = SS at *
          generalize ([a, b, c] : List UInt8) = t3 at *
          obtain ⟨R, hR⟩ : ∃ R, A' ++ B0 = R := ⟨_, rfl⟩
          rw [hR] at x2 HS4
          have hgt : (3 : Int) < ((bA SS).size : Int) := by rw [hsz]; omega
          clear h1 h2 h3 HG HA3
          go_wp2_with (first | (refine step_addR (p := O) (q := [120]) (r := O1) rfl rfl rfl W1.out ?_) | (refine step_addR (p := O1) (q := t3) (r := O2) rfl rfl rfl W2.out ?_) | (refine step_addR (p := O2) (q := [47]) (r := O3) rfl rfl rfl W3.out ?_))
          refine ⟨⟨A', O3, by rw [hR], rfl, by omega, by omega, HA4, HG2, HB2⟩, ?_⟩
          show (bA R).size < (bA SS).size
          rw [hsz, HS4.out, ← hR, List.length_append, hb3]
          omega
    · have h0' : ((z : Int) == 0) = false := by simp; omega
      have h0'' : ¬ (z : Int) = 0 := by omega
      have Z1 : Hid (([48] : List UInt8) ++ q = 48 :: q ∧ ([48] : List UInt8).length + q.length ≤ 9000) := hide ⟨rfl, by simp; omega⟩
      have HN : Hid (pd3 (48 :: q) = ixD n) := hide (by rw [pd3_step (by omega)]; exact HQ.out)
      go_wp2_with (refine step_addR (p := [48]) (q := q) (r := 48 :: q) rfl rfl rfl Z1.out ?_)
      have hlen : (48 :: q).length ≤ 18 := by
        have h1 := pd3_len (48 :: q)
        rw [HN.out] at h1
        exact Nat.le_trans h1 (ixD_len n)
      refine ⟨⟨48 :: q, rfl, by omega, HN, HB⟩, ?_⟩
      show (3 - (bA (48 :: q)).size % 3) % 3 < (3 - (bA q).size % 3) % 3
      rw [bA_size, bA_size, List.length_cons]
      omega
end Go.Proofs.YtlgcjdgcgnlcaaaDoor
