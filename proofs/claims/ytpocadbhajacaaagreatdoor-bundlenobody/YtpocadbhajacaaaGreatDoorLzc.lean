/-
  The document's digits and numbers (out of Wz, Wnu and Wnr, for seats without wire).
-/
import Derived.Test.YtpocadbhajacaaaGreatDoorLza
namespace Go.Proofs.YtpocadbhajacaaaGreatDoor
open Go.RowKit
set_option linter.unusedVariables false
set_option linter.unusedSimpArgs false

set_option maxRecDepth 100000 in
theorem digits_one (n : Nat) (w : World) (h : n < 10) : Calls Tryz.prog 75 #[.int .i64 (n : Int)] w fun r w' => r = .returned (.string (bA (Lib.decDigits n))) ∧ w' = w := by
  rw [Lib.decDigits_one h]
  have hn : n = 0 ∨ n = 1 ∨ n = 2 ∨ n = 3 ∨ n = 4 ∨ n = 5 ∨ n = 6 ∨ n = 7 ∨ n = 8 ∨ n = 9 := by omega
  rcases hn with rfl | rfl | rfl | rfl | rfl | rfl | rfl | rfl | rfl | rfl
  all_goals
    clear h
    go_enter Tryz.func75, Tryz.ntmps75
    go_wp2
    go_ret
    exact ⟨by kernel_rfl, rfl⟩

set_option maxRecDepth 100000 in
theorem digits_any (m : Nat) : ∀ (n : Nat) (w : World), n ≤ m → n < 9223372036854775808 → Calls Tryz.prog 75 #[.int .i64 (n : Int)] w fun r w' => r = .returned (.string (bA (Lib.decDigits n))) ∧ w' = w := by
  induction m with
  | zero => intro n w hm hn; exact digits_one n w (by omega)
  | succ m ih =>
    intro n w hm hn
    by_cases h : n < 10
    · exact digits_one n w h
    have H1 := hide (fun V => ih (n / 10) V (by omega) (by omega))
    clear ih
    have H2 := hide (fun V => digits_one (n % 10) V (Nat.mod_lt _ (by decide)))
    have hl : ¬ (n : Int) < 10 := by omega
    have l1 := dec_len (n / 10) (by omega)
    have l2 := dec_len (n % 10) (by omega)
    have e := dec_step h
    obtain ⟨p, hp⟩ : ∃ p, n / 10 = p := ⟨_, rfl⟩
    obtain ⟨q, hq⟩ : ∃ q, n % 10 = q := ⟨_, rfl⟩
    rw [hp] at H1 l1 e
    rw [hq] at H2 l2 e
    have q1 : (n : Int) / 10 = (p : Int) := by omega
    have q2 : (n : Int) % 10 = (q : Int) := by omega
    have q3 : (n : Int).tdiv 10 = (p : Int) := by rw [Int.tdiv_eq_ediv_of_nonneg (by omega)]; exact q1
    have q4 : (n : Int).tmod 10 = (q : Int) := by rw [Int.tmod_eq_emod_of_nonneg (by omega)]; exact q2
    clear hp hq
    obtain ⟨A, hA⟩ : ∃ A, bA (Lib.decDigits p) = A := ⟨_, rfl⟩
    obtain ⟨B, hB⟩ : ∃ B, bA (Lib.decDigits q) = B := ⟨_, rfl⟩
    have sA : A.size ≤ 20 := by rw [← hA, ← strL_length, strL_bA]; exact l1
    have sB : B.size ≤ 20 := by rw [← hB, ← strL_length, strL_bA]; exact l2
    have eAB : bA (Lib.decDigits n) = A ++ B := eq_of_strL (by rw [strL_app, ← hA, ← hB, strL_bA, strL_bA, strL_bA, e])
    rw [hA] at H1
    rw [hB] at H2
    rw [eAB]
    clear eAB hA hB e l1 l2 h
    have hs : ¬ 9223372036854775807 < A.size + B.size := by omega
    go_enter Tryz.func75, Tryz.ntmps75
    go_wp2_with fail
    refine (H1.out _).mono ?_
    rintro r w1 ⟨rfl, rfl⟩
    go_wp2_with fail
    refine (H2.out _).mono ?_
    rintro r w1 ⟨rfl, rfl⟩
    go_wp2
    go_ret
    exact ⟨rfl, rfl⟩

theorem decFrom_snoc : ∀ (l : List UInt8) (acc : Nat) (b : UInt8), Lib.decFrom acc (l ++ [b]) = (Lib.decFrom acc l).bind fun m => (Lib.digitVal b).map fun d => m * 10 + d
  | [], acc, b => by
    simp only [List.nil_append, Lib.decFrom, Option.bind_some]
    cases Lib.digitVal b <;> rfl
  | a :: t, acc, b => by
    simp only [List.cons_append, Lib.decFrom]
    cases h : Lib.digitVal a with
    | none => rfl
    | some d => exact decFrom_snoc t _ b
theorem dec_head (m : Nat) : ∀ n, n ≤ m → 0 < n → (Lib.decDigits n).head? ≠ some 48 := by
  induction m with
  | zero => intro n hn h0; omega
  | succ m ih =>
    intro n hn h0
    by_cases h : n < 10
    · rw [Lib.decDigits_one h]
      have : n = 1 ∨ n = 2 ∨ n = 3 ∨ n = 4 ∨ n = 5 ∨ n = 6 ∨ n = 7 ∨ n = 8 ∨ n = 9 := by omega
      rcases this with rfl | rfl | rfl | rfl | rfl | rfl | rfl | rfl | rfl <;> decide
    · rw [dec_snoc h]
      have e := ih (n / 10) (by omega) (by omega)
      have hne := dec_ne (n / 10)
      cases hd : Lib.decDigits (n / 10) with
      | nil => exact absurd hd hne
      | cons a t => rw [hd] at e; simpa using e
theorem decFrom_le : ∀ (l : List UInt8) (acc n : Nat), Lib.decFrom acc l = some n → acc ≤ n
  | [], acc, n, h => by simp only [Lib.decFrom, Option.some.injEq] at h; omega
  | a :: t, acc, n, h => by
    simp only [Lib.decFrom] at h
    cases ha : Lib.digitVal a with
    | none => simp [ha] at h
    | some d =>
      simp only [ha] at h
      have := decFrom_le t _ n h
      omega
theorem digit_val {b : UInt8} {d : Nat} (h : Lib.digitVal b = some d) : d < 10 ∧ b = UInt8.ofNat (48 + d) := by
  unfold Lib.digitVal at h
  split at h
  · rename_i hb
    simp only [Option.some.injEq] at h
    refine ⟨by omega, UInt8.toNat_inj.1 ?_⟩
    rw [UInt8.toNat_ofNat']
    omega
  · cases h
/-- Digits without a nought ahead are those of their number. -/
theorem dec_canon : ∀ (k : Nat) (l : List UInt8) (n : Nat), l.length ≤ k → l ≠ [] → (1 < l.length → l.head? ≠ some 48) → Lib.decFrom 0 l = some n → Lib.decDigits n = l := by
  intro k
  induction k with
  | zero => intro l n hk h0 _ _; exact absurd (List.eq_nil_of_length_eq_zero (by omega)) h0
  | succ k ih =>
    intro l n hk h0 hh hd
    obtain ⟨m, b, rfl⟩ : ∃ m b, l = m ++ [b] := ⟨l.dropLast, l.getLast h0, (List.dropLast_concat_getLast h0).symm⟩
    rw [decFrom_snoc] at hd
    cases hm : Lib.decFrom 0 m with
    | none => rw [hm] at hd; cases hd
    | some n' =>
      rw [hm] at hd
      simp only [Option.bind_some] at hd
      cases hb : Lib.digitVal b with
      | none => rw [hb] at hd; cases hd
      | some d =>
        rw [hb] at hd
        simp only [Option.map_some, Option.some.injEq] at hd
        obtain ⟨hd10, rfl⟩ := digit_val hb
        cases m with
        | nil =>
          simp only [Lib.decFrom, Option.some.injEq] at hm
          have : n = d := by omega
          rw [this, Lib.decDigits_one hd10]
          rfl
        | cons a t =>
          have hx : a ≠ 48 := by have := hh (by simp); simpa using this
          have h1 : 1 ≤ n' := by
            simp only [Lib.decFrom] at hm
            cases ha : Lib.digitVal a with
            | none => simp [ha] at hm
            | some e =>
              simp only [ha] at hm
              have := decFrom_le t _ n' hm
              obtain ⟨_, he⟩ := digit_val ha
              have : e ≠ 0 := fun h => hx (by rw [he, h]; rfl)
              omega
          have hr := ih (a :: t) n' (by simp at hk ⊢; omega) (by simp) (fun _ => by simpa using hx) hm
          have e1 : n / 10 = n' := by omega
          have e2 : n % 10 = d := by omega
          rw [dec_snoc (by omega), e1, e2, hr]
/-- The number that a text writes, if it is one that may be. -/
def nmO (l : List UInt8) : Option Nat := (Lib.decFrom 0 l).bind fun v => if v ≤ 281474976710656 ∧ Lib.decDigits v = l then some v else none
theorem nmO_some {l : List UInt8} {v : Nat} (h : nmO l = some v) : v ≤ 281474976710656 ∧ Lib.decDigits v = l := by
  unfold nmO at h
  cases hd : Lib.decFrom 0 l with
  | none => rw [hd] at h; cases h
  | some n =>
    rw [hd] at h
    simp only [Option.bind_some] at h
    split at h
    · rename_i hc
      simp only [Option.some.injEq] at h
      subst h
      exact hc
    · cases h
theorem nmO_of {l : List UInt8} {v : Nat} (h0 : v ≤ 281474976710656) (h1 : Lib.decDigits v = l) : nmO l = some v := by
  unfold nmO
  rw [← h1, dec_of v v (Nat.le_refl _)]
  simp [h0]
theorem dec_short {v : Nat} (h : v < 10 ^ 18) : (Lib.decDigits v).length ≤ 18 := by
  have key : ∀ (k v : Nat), v < 10 ^ k → 0 < k → (Lib.decDigits v).length ≤ k := by
    intro k
    induction k with
    | zero => intro v _ h; omega
    | succ k ih =>
      intro v hv _
      by_cases h10 : v < 10
      · rw [Lib.decDigits_one h10]; simp
      · rw [dec_snoc h10, List.length_append]
        have hk : 0 < k := by
          rcases Nat.eq_zero_or_pos k with rfl | h
          · simp at hv; omega
          · exact h
        have := ih (v / 10) (by rw [Nat.pow_succ] at hv; omega) hk
        simp; omega
  exact key 18 v h (by decide)
theorem nmO_len {l : List UInt8} {v : Nat} (h : nmO l = some v) : 1 ≤ l.length ∧ l.length ≤ 18 ∧ (1 < l.length → l.head? ≠ some 48) := by
  obtain ⟨hv, rfl⟩ := nmO_some h
  refine ⟨?_, dec_short (by omega), fun hl => ?_⟩
  · have := dec_ne v
    cases hd : Lib.decDigits v with
    | nil => exact absurd hd this
    | cons a t => simp
  · refine dec_head v v (Nat.le_refl _) ?_
    rcases Nat.eq_zero_or_pos v with rfl | h0
    · rw [Lib.decDigits_one (by decide)] at hl; simp at hl
    · exact h0
theorem nmO_dec {l : List UInt8} {v : Nat} (h : nmO l = some v) : Lib.decFrom 0 l = some v := by
  obtain ⟨hv, rfl⟩ := nmO_some h
  exact dec_of v v (Nat.le_refl _)
theorem decFrom_lt : ∀ (l : List UInt8) (acc n : Nat), Lib.decFrom acc l = some n → n < (acc + 1) * 10 ^ l.length
  | [], acc, n, h => by simp only [Lib.decFrom, Option.some.injEq] at h; simp; omega
  | a :: t, acc, n, h => by
    simp only [Lib.decFrom] at h
    cases ha : Lib.digitVal a with
    | none => simp [ha] at h
    | some d =>
      simp only [ha] at h
      have h1 := decFrom_lt t _ n h
      have h2 := (digit_val ha).1
      have h3 : (acc * 10 + d + 1) * 10 ^ t.length ≤ ((acc + 1) * 10) * 10 ^ t.length := Nat.mul_le_mul_right _ (by omega)
      rw [Nat.mul_assoc] at h3
      rw [List.length_cons, Nat.pow_succ, Nat.mul_comm (10 ^ t.length) 10]
      omega

set_option maxRecDepth 100000 in
set_option maxHeartbeats 1000000 in
theorem num_any (s : ByteArray) (w : World) (hs : s.size ≤ 16777216) :
    Calls Tryz.prog 76 #[.string s, .int .i64 281474976710656] w fun r w' => Below w.heap.size w w' ∧
      ((∃ u : Nat, nmO (strL s) = some u ∧ r = .returned (.tuple #[.int .i64 (u : Int), .bool true])) ∨ (nmO (strL s) = none ∧ ∃ x, r = .returned (.tuple #[.int .i64 x, .bool false]))) := by
  have hl : (strL s).length = s.size := strL_length s
  by_cases h0 : s.size < 1
  · have HN : Hid (nmO (strL s) = none) := hide (by
      cases hn : nmO (strL s) with
      | none => rfl
      | some u => have := (nmO_len hn).1; omega)
    have h0' : (s.size : Int) < 1 := by omega
    go_enter Tryz.func76, Tryz.ntmps76
    go_wp2
    go_ret2
    exact ⟨Below.refl _ _, .inr ⟨HN.out, _, rfl⟩⟩
  · have h0' : ¬ ((s.size : Int) < 1) := by omega
    by_cases h18 : 18 < s.size
    · have HN : Hid (nmO (strL s) = none) := hide (by
        cases hn : nmO (strL s) with
        | none => rfl
        | some u => have := (nmO_len hn).2.1; omega)
      have h18' : (18 : Int) < (s.size : Int) := by omega
      go_enter Tryz.func76, Tryz.ntmps76
      go_wp2
      go_ret2
      exact ⟨Below.refl _ _, .inr ⟨HN.out, _, rfl⟩⟩
    · have h18' : ¬ ((18 : Int) < (s.size : Int)) := by omega
      have hz : 0 < s.size := by omega
      have hg0 : (strL s).head? = some (s[0]'hz) := by
        rw [List.head?_eq_getElem?, List.getElem?_eq_getElem (by omega)]
        rfl
      by_cases h1 : 1 < s.size ∧ s[0]'hz = 48
      · have HN : Hid (nmO (strL s) = none) := hide (by
          cases hn : nmO (strL s) with
          | none => rfl
          | some u => exact absurd (by rw [hg0, h1.2]) ((nmO_len hn).2.2 (by omega)))
        have h1' : (1 : Int) < (s.size : Int) := by omega
        have hz' : (0 : Int) < (s.size : Int) := by omega
        have e48 : ((((s[0]'hz).toNat : Nat) : Int) == 48) = true := by rw [h1.2]; rfl
        clear h1 hg0
        go_enter Tryz.func76, Tryz.ntmps76
        go_wp2
        go_ret2
        exact ⟨Below.refl _ _, .inr ⟨HN.out, _, rfl⟩⟩
      · have HH : Hid (1 < (strL s).length → (strL s).head? ≠ some 48) := hide (fun h hh => h1 ⟨by omega, by rw [hg0] at hh; exact Option.some.inj hh⟩)
        have HX : Hid ((¬ (1 : Int) < (s.size : Int)) ∨ ((1 : Int) < (s.size : Int) ∧ ((((s[0]'hz).toNat : Nat) : Int) == 48) = false)) := hide (by
          by_cases h : 1 < s.size
          · right
            refine ⟨by omega, ?_⟩
            simp only [beq_eq_false_iff_ne, ne_eq]
            intro e
            refine h1 ⟨h, UInt8.toNat_inj.1 ?_⟩
            have : (s[0]'hz).toNat = 48 := by omega
            rw [this]; rfl
          · left; omega)
        have hz' : (0 : Int) < (s.size : Int) := by omega
        clear h1 hg0
        rcases HX.out with h1' | ⟨h1', e48⟩
        · clear HX
          go_enter Tryz.func76, Tryz.ntmps76
          go_wp2
          go_loopw [6, 7] (fun n i W => ∃ q m : Nat, q ≤ s.size ∧ n = .int .i64 (m : Int) ∧ i = .int .i64 (q : Int) ∧ Lib.decFrom 0 ((strL s).take q) = some m ∧ Below w.heap.size w W) (fun _ i _ => s.size - (intOf i).toNat)
          case atStart => exact ⟨0, 0, by omega, rfl, rfl, rfl, Below.refl _ _⟩
          case round =>
            obtain ⟨q, m, hq, rfl, rfl, hm, hbw⟩ := hrel
            have HM := hide hm
            have BQ := hide hbw
            have hml : m < 10 ^ q := by
              have := decFrom_lt _ _ _ hm
              rw [List.length_take, hl, Nat.min_eq_left hq] at this
              omega
            clear hm hbw
            by_cases hlt : q < s.size
            · have hlt' : (q : Int) < (s.size : Int) := by omega
              have hm17 : m < 100000000000000000 := Nat.lt_of_lt_of_le hml (Nat.le_trans (Nat.pow_le_pow_right (by decide) (show q ≤ 17 by omega)) (by decide))
              have hg : (strL s)[q]? = some (s[q]'hlt) := by rw [List.getElem?_eq_getElem (by omega)]; rfl
              clear hml
              by_cases hx : (s[q]'hlt).toNat < 48
              · have hx' : ((((s[q]'hlt).toNat : Nat) : Int)) < 48 := by omega
                have HN : Hid (nmO (strL s) = none) := hide (by
                  cases hn : nmO (strL s) with
                  | none => rfl
                  | some u =>
                    obtain ⟨d, hd⟩ := Lib.digit_of_decFrom _ _ _ (nmO_dec hn) q _ hg
                    unfold Lib.digitVal at hd
                    rw [if_neg (by omega)] at hd
                    cases hd)
                clear hg
                go_wp2
                go_ret2
                exact ⟨BQ.out, .inr ⟨HN.out, _, rfl⟩⟩
              · have hx' : ¬ ((((s[q]'hlt).toNat : Nat) : Int)) < 48 := by omega
                by_cases hy : 57 < (s[q]'hlt).toNat
                · have hy' : (57 : Int) < ((((s[q]'hlt).toNat : Nat) : Int)) := by omega
                  have HN : Hid (nmO (strL s) = none) := hide (by
                    cases hn : nmO (strL s) with
                    | none => rfl
                    | some u =>
                      obtain ⟨d, hd⟩ := Lib.digit_of_decFrom _ _ _ (nmO_dec hn) q _ hg
                      unfold Lib.digitVal at hd
                      rw [if_neg (by omega)] at hd
                      cases hd)
                  clear hg
                  go_wp2
                  go_ret2
                  exact ⟨BQ.out, .inr ⟨HN.out, _, rfl⟩⟩
                · have hy' : ¬ (57 : Int) < ((((s[q]'hlt).toNat : Nat) : Int)) := by omega
                  have HD : Hid (Lib.decFrom 0 ((strL s).take (q + 1)) = some (m * 10 + ((s[q]'hlt).toNat - 48))) := hide (Lib.decFrom_take _ _ _ _ _ _ HM.out hg (by unfold Lib.digitVal; rw [if_pos (by omega)]))
                  have hwm : IntKind.i64.wrap ((m : Int) * 10) = (m : Int) * 10 := by rw [IntKind.wrap_i64]; omega
                  have hwx : IntKind.u8.wrap (((((s[q]'hlt).toNat : Nat) : Int)) - 48) = ((((s[q]'hlt).toNat : Nat) : Int)) - 48 := by rw [IntKind.wrap_u8]; omega
                  have hwy : IntKind.i64.wrap (((((s[q]'hlt).toNat : Nat) : Int)) - 48) = ((((s[q]'hlt).toNat : Nat) : Int)) - 48 := by rw [IntKind.wrap_i64]; omega
                  have hwz : IntKind.i64.wrap ((m : Int) * 10 + (((((s[q]'hlt).toNat : Nat) : Int)) - 48)) = (m : Int) * 10 + (((((s[q]'hlt).toNat : Nat) : Int)) - 48) := by rw [IntKind.wrap_i64]; omega
                  have hwq : IntKind.i64.wrap ((q : Int) + 1) = (q : Int) + 1 := by rw [IntKind.wrap_i64]; omega
                  have HZ : Hid ((m : Int) * 10 + (((((s[q]'hlt).toNat : Nat) : Int)) - 48) = ((m * 10 + ((s[q]'hlt).toNat - 48) : Nat) : Int)) := hide (by omega)
                  clear hg
                  go_wp2
                  go_roundw
                  case rel => exact ⟨q + 1, m * 10 + ((s[q]'hlt).toNat - 48), by omega, by rw [← HZ.out], by simp, HD.out, BQ.out⟩
                  case measure => simp only [intOf]; omega
            · obtain rfl : q = s.size := by omega
              have hlt' : ¬ ((s.size : Int) < (s.size : Int)) := by omega
              have hdm : Lib.decFrom 0 (strL s) = some m := by
                have := HM.out
                rwa [List.take_of_length_le (by omega)] at this
              have hcn : Lib.decDigits m = strL s := dec_canon _ _ _ (Nat.le_refl _) (fun e => by rw [e] at hl; simp at hl; omega) HH.out hdm
              by_cases hle : m ≤ 281474976710656
              · have hle' : (m : Int) ≤ 281474976710656 := by omega
                have HN := hide (nmO_of hle hcn)
                clear hdm hcn hml
                go_wp2
                go_ret2
                exact ⟨BQ.out, .inl ⟨m, HN.out, rfl⟩⟩
              · have hle' : ¬ (m : Int) ≤ 281474976710656 := by omega
                have HN : Hid (nmO (strL s) = none) := hide (by
                  cases hn : nmO (strL s) with
                  | none => rfl
                  | some u =>
                    have e := nmO_dec hn
                    rw [hdm] at e
                    injection e with e
                    have := (nmO_some hn).1
                    omega)
                clear hdm hcn hml
                go_wp2
                go_ret2
                exact ⟨BQ.out, .inr ⟨HN.out, _, rfl⟩⟩
        · clear HX
          go_enter Tryz.func76, Tryz.ntmps76
          go_wp2
          go_loopw [6, 7] (fun n i W => ∃ q m : Nat, q ≤ s.size ∧ n = .int .i64 (m : Int) ∧ i = .int .i64 (q : Int) ∧ Lib.decFrom 0 ((strL s).take q) = some m ∧ Below w.heap.size w W) (fun _ i _ => s.size - (intOf i).toNat)
          case atStart => exact ⟨0, 0, by omega, rfl, rfl, rfl, Below.refl _ _⟩
          case round =>
            obtain ⟨q, m, hq, rfl, rfl, hm, hbw⟩ := hrel
            have HM := hide hm
            have BQ := hide hbw
            have hml : m < 10 ^ q := by
              have := decFrom_lt _ _ _ hm
              rw [List.length_take, hl, Nat.min_eq_left hq] at this
              omega
            clear hm hbw
            by_cases hlt : q < s.size
            · have hlt' : (q : Int) < (s.size : Int) := by omega
              have hm17 : m < 100000000000000000 := Nat.lt_of_lt_of_le hml (Nat.le_trans (Nat.pow_le_pow_right (by decide) (show q ≤ 17 by omega)) (by decide))
              have hg : (strL s)[q]? = some (s[q]'hlt) := by rw [List.getElem?_eq_getElem (by omega)]; rfl
              clear hml
              by_cases hx : (s[q]'hlt).toNat < 48
              · have hx' : ((((s[q]'hlt).toNat : Nat) : Int)) < 48 := by omega
                have HN : Hid (nmO (strL s) = none) := hide (by
                  cases hn : nmO (strL s) with
                  | none => rfl
                  | some u =>
                    obtain ⟨d, hd⟩ := Lib.digit_of_decFrom _ _ _ (nmO_dec hn) q _ hg
                    unfold Lib.digitVal at hd
                    rw [if_neg (by omega)] at hd
                    cases hd)
                clear hg
                go_wp2
                go_ret2
                exact ⟨BQ.out, .inr ⟨HN.out, _, rfl⟩⟩
              · have hx' : ¬ ((((s[q]'hlt).toNat : Nat) : Int)) < 48 := by omega
                by_cases hy : 57 < (s[q]'hlt).toNat
                · have hy' : (57 : Int) < ((((s[q]'hlt).toNat : Nat) : Int)) := by omega
                  have HN : Hid (nmO (strL s) = none) := hide (by
                    cases hn : nmO (strL s) with
                    | none => rfl
                    | some u =>
                      obtain ⟨d, hd⟩ := Lib.digit_of_decFrom _ _ _ (nmO_dec hn) q _ hg
                      unfold Lib.digitVal at hd
                      rw [if_neg (by omega)] at hd
                      cases hd)
                  clear hg
                  go_wp2
                  go_ret2
                  exact ⟨BQ.out, .inr ⟨HN.out, _, rfl⟩⟩
                · have hy' : ¬ (57 : Int) < ((((s[q]'hlt).toNat : Nat) : Int)) := by omega
                  have HD : Hid (Lib.decFrom 0 ((strL s).take (q + 1)) = some (m * 10 + ((s[q]'hlt).toNat - 48))) := hide (Lib.decFrom_take _ _ _ _ _ _ HM.out hg (by unfold Lib.digitVal; rw [if_pos (by omega)]))
                  have hwm : IntKind.i64.wrap ((m : Int) * 10) = (m : Int) * 10 := by rw [IntKind.wrap_i64]; omega
                  have hwx : IntKind.u8.wrap (((((s[q]'hlt).toNat : Nat) : Int)) - 48) = ((((s[q]'hlt).toNat : Nat) : Int)) - 48 := by rw [IntKind.wrap_u8]; omega
                  have hwy : IntKind.i64.wrap (((((s[q]'hlt).toNat : Nat) : Int)) - 48) = ((((s[q]'hlt).toNat : Nat) : Int)) - 48 := by rw [IntKind.wrap_i64]; omega
                  have hwz : IntKind.i64.wrap ((m : Int) * 10 + (((((s[q]'hlt).toNat : Nat) : Int)) - 48)) = (m : Int) * 10 + (((((s[q]'hlt).toNat : Nat) : Int)) - 48) := by rw [IntKind.wrap_i64]; omega
                  have hwq : IntKind.i64.wrap ((q : Int) + 1) = (q : Int) + 1 := by rw [IntKind.wrap_i64]; omega
                  have HZ : Hid ((m : Int) * 10 + (((((s[q]'hlt).toNat : Nat) : Int)) - 48) = ((m * 10 + ((s[q]'hlt).toNat - 48) : Nat) : Int)) := hide (by omega)
                  clear hg
                  go_wp2
                  go_roundw
                  case rel => exact ⟨q + 1, m * 10 + ((s[q]'hlt).toNat - 48), by omega, by rw [← HZ.out], by simp, HD.out, BQ.out⟩
                  case measure => simp only [intOf]; omega
            · obtain rfl : q = s.size := by omega
              have hlt' : ¬ ((s.size : Int) < (s.size : Int)) := by omega
              have hdm : Lib.decFrom 0 (strL s) = some m := by
                have := HM.out
                rwa [List.take_of_length_le (by omega)] at this
              have hcn : Lib.decDigits m = strL s := dec_canon _ _ _ (Nat.le_refl _) (fun e => by rw [e] at hl; simp at hl; omega) HH.out hdm
              by_cases hle : m ≤ 281474976710656
              · have hle' : (m : Int) ≤ 281474976710656 := by omega
                have HN := hide (nmO_of hle hcn)
                clear hdm hcn hml
                go_wp2
                go_ret2
                exact ⟨BQ.out, .inl ⟨m, HN.out, rfl⟩⟩
              · have hle' : ¬ (m : Int) ≤ 281474976710656 := by omega
                have HN : Hid (nmO (strL s) = none) := hide (by
                  cases hn : nmO (strL s) with
                  | none => rfl
                  | some u =>
                    have e := nmO_dec hn
                    rw [hdm] at e
                    injection e with e
                    have := (nmO_some hn).1
                    omega)
                clear hdm hcn hml
                go_wp2
                go_ret2
                exact ⟨BQ.out, .inr ⟨HN.out, _, rfl⟩⟩

end Go.Proofs.YtpocadbhajacaaaGreatDoor
