/-
  Texts one behind the other: Lzc Tqa Ti0 Tqb Sna Zla Kqa Kqb Kqc Kqd.
-/
import Derived.Test.YtlgcjdgcgnlcaaaGreatDoorLza
import Derived.Test.YtlgcjdgcgnlcaaaGreatDoorTpb
import Derived.Test.YtlgcjdgcgnlcaaaGreatDoorTe0
import Derived.Test.YtlgcjdgcgnlcaaaGreatDoorPkA
import Derived.Test.YtlgcjdgcgnlcaaaGreatDoorKpb
import Derived.Test.YtlgcjdgcgnlcaaaGreatDoorKmi
import Derived.Deep.Upon

/-
  The document's digits and numbers (out of Wz, Wnu and Wnr, for seats without wire).
-/
namespace Go.Proofs.YtlgcjdgcgnlcaaaGreatDoor
open Go.RowKit
set_option linter.unusedVariables false
set_option linter.unusedSimpArgs false

set_option maxRecDepth 100000 in
theorem digits_one (n : Nat) (w : World) (h : n < 10) : Calls Tryz.prog 91 #[.int .i64 (n : Int)] w fun r w' => r = .returned (.string (bA (Lib.decDigits n))) ∧ w' = w := by
  rw [Lib.decDigits_one h]
  have hn : n = 0 ∨ n = 1 ∨ n = 2 ∨ n = 3 ∨ n = 4 ∨ n = 5 ∨ n = 6 ∨ n = 7 ∨ n = 8 ∨ n = 9 := by omega
  rcases hn with rfl | rfl | rfl | rfl | rfl | rfl | rfl | rfl | rfl | rfl
  all_goals
    clear h
    go_enter Tryz.func91, Tryz.ntmps91
    go_wp2
    go_ret
    exact ⟨by kernel_rfl, rfl⟩

set_option maxRecDepth 100000 in
theorem digits_any (m : Nat) : ∀ (n : Nat) (w : World), n ≤ m → n < 9223372036854775808 → Calls Tryz.prog 91 #[.int .i64 (n : Int)] w fun r w' => r = .returned (.string (bA (Lib.decDigits n))) ∧ w' = w := by
  induction m with
  | zero => intro n w hm hn; exact digits_one n w (by omega)
  | succ m ih =>
    intro n w hm hn
    by_cases h : n < 10
    · exact digits_one n w h
    have H1 := hide (fun V => ih (n / 10) V (by omega) (by omega))
    clear ih
    have H2 := hide (fun V => digits_one (n % 10) V (Nat.mod_lt _ (by decide)))
    have hl : ¬ (n : Int) < 10 := by omega
    have l1 := dec_len (n / 10) (by omega)
    have l2 := dec_len (n % 10) (by omega)
    have e := dec_step h
    obtain ⟨p, hp⟩ : ∃ p, n / 10 = p := ⟨_, rfl⟩
    obtain ⟨q, hq⟩ : ∃ q, n % 10 = q := ⟨_, rfl⟩
    rw [hp] at H1 l1 e
    rw [hq] at H2 l2 e
    have q1 : (n : Int) / 10 = (p : Int) := by omega
    have q2 : (n : Int) % 10 = (q : Int) := by omega
    have q3 : (n : Int).tdiv 10 = (p : Int) := by rw [Int.tdiv_eq_ediv_of_nonneg (by omega)]; exact q1
    have q4 : (n : Int).tmod 10 = (q : Int) := by rw [Int.tmod_eq_emod_of_nonneg (by omega)]; exact q2
    clear hp hq
    obtain ⟨A, hA⟩ : ∃ A, bA (Lib.decDigits p) = A := ⟨_, rfl⟩
    obtain ⟨B, hB⟩ : ∃ B, bA (Lib.decDigits q) = B := ⟨_, rfl⟩
    have sA : A.size ≤ 20 := by rw [← hA, ← strL_length, strL_bA]; exact l1
    have sB : B.size ≤ 20 := by rw [← hB, ← strL_length, strL_bA]; exact l2
    have eAB : bA (Lib.decDigits n) = A ++ B := eq_of_strL (by rw [strL_app, ← hA, ← hB, strL_bA, strL_bA, strL_bA, e])
    rw [hA] at H1
    rw [hB] at H2
    rw [eAB]
    clear eAB hA hB e l1 l2 h
    have hs : ¬ 9223372036854775807 < A.size + B.size := by omega
    go_enter Tryz.func91, Tryz.ntmps91
    go_wp2_with fail
    refine (H1.out _).mono ?_
    rintro r w1 ⟨rfl, rfl⟩
    go_wp2_with fail
    refine (H2.out _).mono ?_
    rintro r w1 ⟨rfl, rfl⟩
    go_wp2
    go_ret
    exact ⟨rfl, rfl⟩

theorem decFrom_snoc : ∀ (l : List UInt8) (acc : Nat) (b : UInt8), Lib.decFrom acc (l ++ [b]) = (Lib.decFrom acc l).bind fun m => (Lib.digitVal b).map fun d => m * 10 + d
  | [], acc, b => by
    simp only [List.nil_append, Lib.decFrom, Option.bind_some]
    cases Lib.digitVal b <;> rfl
  | a :: t, acc, b => by
    simp only [List.cons_append, Lib.decFrom]
    cases h : Lib.digitVal a with
    | none => rfl
    | some d => exact decFrom_snoc t _ b
theorem dec_head (m : Nat) : ∀ n, n ≤ m → 0 < n → (Lib.decDigits n).head? ≠ some 48 := by
  induction m with
  | zero => intro n hn h0; omega
  | succ m ih =>
    intro n hn h0
    by_cases h : n < 10
    · rw [Lib.decDigits_one h]
      have : n = 1 ∨ n = 2 ∨ n = 3 ∨ n = 4 ∨ n = 5 ∨ n = 6 ∨ n = 7 ∨ n = 8 ∨ n = 9 := by omega
      rcases this with rfl | rfl | rfl | rfl | rfl | rfl | rfl | rfl | rfl <;> decide
    · rw [dec_snoc h]
      have e := ih (n / 10) (by omega) (by omega)
      have hne := dec_ne (n / 10)
      cases hd : Lib.decDigits (n / 10) with
      | nil => exact absurd hd hne
      | cons a t => rw [hd] at e; simpa using e
theorem decFrom_le : ∀ (l : List UInt8) (acc n : Nat), Lib.decFrom acc l = some n → acc ≤ n
  | [], acc, n, h => by simp only [Lib.decFrom, Option.some.injEq] at h; omega
  | a :: t, acc, n, h => by
    simp only [Lib.decFrom] at h
    cases ha : Lib.digitVal a with
    | none => simp [ha] at h
    | some d =>
      simp only [ha] at h
      have := decFrom_le t _ n h
      omega
theorem digit_val {b : UInt8} {d : Nat} (h : Lib.digitVal b = some d) : d < 10 ∧ b = UInt8.ofNat (48 + d) := by
  unfold Lib.digitVal at h
  split at h
  · rename_i hb
    simp only [Option.some.injEq] at h
    refine ⟨by omega, UInt8.toNat_inj.1 ?_⟩
    rw [UInt8.toNat_ofNat']
    omega
  · cases h
/-- Digits without a nought ahead are those of their number. -/
theorem dec_canon : ∀ (k : Nat) (l : List UInt8) (n : Nat), l.length ≤ k → l ≠ [] → (1 < l.length → l.head? ≠ some 48) → Lib.decFrom 0 l = some n → Lib.decDigits n = l := by
  intro k
  induction k with
  | zero => intro l n hk h0 _ _; exact absurd (List.eq_nil_of_length_eq_zero (by omega)) h0
  | succ k ih =>
    intro l n hk h0 hh hd
    obtain ⟨m, b, rfl⟩ : ∃ m b, l = m ++ [b] := ⟨l.dropLast, l.getLast h0, (List.dropLast_concat_getLast h0).symm⟩
    rw [decFrom_snoc] at hd
    cases hm : Lib.decFrom 0 m with
    | none => rw [hm] at hd; cases hd
    | some n' =>
      rw [hm] at hd
      simp only [Option.bind_some] at hd
      cases hb : Lib.digitVal b with
      | none => rw [hb] at hd; cases hd
      | some d =>
        rw [hb] at hd
        simp only [Option.map_some, Option.some.injEq] at hd
        obtain ⟨hd10, rfl⟩ := digit_val hb
        cases m with
        | nil =>
          simp only [Lib.decFrom, Option.some.injEq] at hm
          have : n = d := by omega
          rw [this, Lib.decDigits_one hd10]
          rfl
        | cons a t =>
          have hx : a ≠ 48 := by have := hh (by simp); simpa using this
          have h1 : 1 ≤ n' := by
            simp only [Lib.decFrom] at hm
            cases ha : Lib.digitVal a with
            | none => simp [ha] at hm
            | some e =>
              simp only [ha] at hm
              have := decFrom_le t _ n' hm
              obtain ⟨_, he⟩ := digit_val ha
              have : e ≠ 0 := fun h => hx (by rw [he, h]; rfl)
              omega
          have hr := ih (a :: t) n' (by simp at hk ⊢; omega) (by simp) (fun _ => by simpa using hx) hm
          have e1 : n / 10 = n' := by omega
          have e2 : n % 10 = d := by omega
          rw [dec_snoc (by omega), e1, e2, hr]
/-- The number that a text writes, if it is one that may be. -/
def nmO (l : List UInt8) : Option Nat := (Lib.decFrom 0 l).bind fun v => if v ≤ 281474976710656 ∧ Lib.decDigits v = l then some v else none
theorem nmO_some {l : List UInt8} {v : Nat} (h : nmO l = some v) : v ≤ 281474976710656 ∧ Lib.decDigits v = l := by
  unfold nmO at h
  cases hd : Lib.decFrom 0 l with
  | none => rw [hd] at h; cases h
  | some n =>
    rw [hd] at h
    simp only [Option.bind_some] at h
    split at h
    · rename_i hc
      simp only [Option.some.injEq] at h
      subst h
      exact hc
    · cases h
theorem nmO_of {l : List UInt8} {v : Nat} (h0 : v ≤ 281474976710656) (h1 : Lib.decDigits v = l) : nmO l = some v := by
  unfold nmO
  rw [← h1, dec_of v v (Nat.le_refl _)]
  simp [h0]
theorem dec_short {v : Nat} (h : v < 10 ^ 18) : (Lib.decDigits v).length ≤ 18 := by
  have key : ∀ (k v : Nat), v < 10 ^ k → 0 < k → (Lib.decDigits v).length ≤ k := by
    intro k
    induction k with
    | zero => intro v _ h; omega
    | succ k ih =>
      intro v hv _
      by_cases h10 : v < 10
      · rw [Lib.decDigits_one h10]; simp
      · rw [dec_snoc h10, List.length_append]
        have hk : 0 < k := by
          rcases Nat.eq_zero_or_pos k with rfl | h
          · simp at hv; omega
          · exact h
        have := ih (v / 10) (by rw [Nat.pow_succ] at hv; omega) hk
        simp; omega
  exact key 18 v h (by decide)
theorem nmO_len {l : List UInt8} {v : Nat} (h : nmO l = some v) : 1 ≤ l.length ∧ l.length ≤ 18 ∧ (1 < l.length → l.head? ≠ some 48) := by
  obtain ⟨hv, rfl⟩ := nmO_some h
  refine ⟨?_, dec_short (by omega), fun hl => ?_⟩
  · have := dec_ne v
    cases hd : Lib.decDigits v with
    | nil => exact absurd hd this
    | cons a t => simp
  · refine dec_head v v (Nat.le_refl _) ?_
    rcases Nat.eq_zero_or_pos v with rfl | h0
    · rw [Lib.decDigits_one (by decide)] at hl; simp at hl
    · exact h0
theorem nmO_dec {l : List UInt8} {v : Nat} (h : nmO l = some v) : Lib.decFrom 0 l = some v := by
  obtain ⟨hv, rfl⟩ := nmO_some h
  exact dec_of v v (Nat.le_refl _)
theorem decFrom_lt : ∀ (l : List UInt8) (acc n : Nat), Lib.decFrom acc l = some n → n < (acc + 1) * 10 ^ l.length
  | [], acc, n, h => by simp only [Lib.decFrom, Option.some.injEq] at h; simp; omega
  | a :: t, acc, n, h => by
    simp only [Lib.decFrom] at h
    cases ha : Lib.digitVal a with
    | none => simp [ha] at h
    | some d =>
      simp only [ha] at h
      have h1 := decFrom_lt t _ n h
      have h2 := (digit_val ha).1
      have h3 : (acc * 10 + d + 1) * 10 ^ t.length ≤ ((acc + 1) * 10) * 10 ^ t.length := Nat.mul_le_mul_right _ (by omega)
      rw [Nat.mul_assoc] at h3
      rw [List.length_cons, Nat.pow_succ, Nat.mul_comm (10 ^ t.length) 10]
      omega

set_option maxRecDepth 100000 in
set_option maxHeartbeats 1000000 in
theorem num_any (s : ByteArray) (w : World) (hs : s.size ≤ 16777216) :
    Calls Tryz.prog 97 #[.string s, .int .i64 281474976710656] w fun r w' => Below w.heap.size w w' ∧
      ((∃ u : Nat, nmO (strL s) = some u ∧ r = .returned (.tuple #[.int .i64 (u : Int), .bool true])) ∨ (nmO (strL s) = none ∧ ∃ x, r = .returned (.tuple #[.int .i64 x, .bool false]))) := by
  have hl : (strL s).length = s.size := strL_length s
  by_cases h0 : s.size < 1
  · have HN : Hid (nmO (strL s) = none) := hide (by
      cases hn : nmO (strL s) with
      | none => rfl
      | some u => have := (nmO_len hn).1; omega)
    have h0' : (s.size : Int) < 1 := by omega
    go_enter Tryz.func97, Tryz.ntmps97
    go_wp2
    go_ret2
    exact ⟨Below.refl _ _, .inr ⟨HN.out, _, rfl⟩⟩
  · have h0' : ¬ ((s.size : Int) < 1) := by omega
    by_cases h18 : 18 < s.size
    · have HN : Hid (nmO (strL s) = none) := hide (by
        cases hn : nmO (strL s) with
        | none => rfl
        | some u => have := (nmO_len hn).2.1; omega)
      have h18' : (18 : Int) < (s.size : Int) := by omega
      go_enter Tryz.func97, Tryz.ntmps97
      go_wp2
      go_ret2
      exact ⟨Below.refl _ _, .inr ⟨HN.out, _, rfl⟩⟩
    · have h18' : ¬ ((18 : Int) < (s.size : Int)) := by omega
      have hz : 0 < s.size := by omega
      have hg0 : (strL s).head? = some (s[0]'hz) := by
        rw [List.head?_eq_getElem?, List.getElem?_eq_getElem (by omega)]
        rfl
      by_cases h1 : 1 < s.size ∧ s[0]'hz = 48
      · have HN : Hid (nmO (strL s) = none) := hide (by
          cases hn : nmO (strL s) with
          | none => rfl
          | some u => exact absurd (by rw [hg0, h1.2]) ((nmO_len hn).2.2 (by omega)))
        have h1' : (1 : Int) < (s.size : Int) := by omega
        have hz' : (0 : Int) < (s.size : Int) := by omega
        have e48 : ((((s[0]'hz).toNat : Nat) : Int) == 48) = true := by rw [h1.2]; rfl
        clear h1 hg0
        go_enter Tryz.func97, Tryz.ntmps97
        go_wp2
        go_ret2
        exact ⟨Below.refl _ _, .inr ⟨HN.out, _, rfl⟩⟩
      · have HH : Hid (1 < (strL s).length → (strL s).head? ≠ some 48) := hide (fun h hh => h1 ⟨by omega, by rw [hg0] at hh; exact Option.some.inj hh⟩)
        have HX : Hid ((¬ (1 : Int) < (s.size : Int)) ∨ ((1 : Int) < (s.size : Int) ∧ ((((s[0]'hz).toNat : Nat) : Int) == 48) = false)) := hide (by
          by_cases h : 1 < s.size
          · right
            refine ⟨by omega, ?_⟩
            simp only [beq_eq_false_iff_ne, ne_eq]
            intro e
            refine h1 ⟨h, UInt8.toNat_inj.1 ?_⟩
            have : (s[0]'hz).toNat = 48 := by omega
            rw [this]; rfl
          · left; omega)
        have hz' : (0 : Int) < (s.size : Int) := by omega
        clear h1 hg0
        rcases HX.out with h1' | ⟨h1', e48⟩
        · clear HX
          go_enter Tryz.func97, Tryz.ntmps97
          go_wp2
          go_loopw [6, 7] (fun n i W => ∃ q m : Nat, q ≤ s.size ∧ n = .int .i64 (m : Int) ∧ i = .int .i64 (q : Int) ∧ Lib.decFrom 0 ((strL s).take q) = some m ∧ Below w.heap.size w W) (fun _ i _ => s.size - (intOf i).toNat)
          case atStart => exact ⟨0, 0, by omega, rfl, rfl, rfl, Below.refl _ _⟩
          case round =>
            obtain ⟨q, m, hq, rfl, rfl, hm, hbw⟩ := hrel
            have HM := hide hm
            have BQ := hide hbw
            have hml : m < 10 ^ q := by
              have := decFrom_lt _ _ _ hm
              rw [List.length_take, hl, Nat.min_eq_left hq] at this
              omega
            clear hm hbw
            by_cases hlt : q < s.size
            · have hlt' : (q : Int) < (s.size : Int) := by omega
              have hm17 : m < 100000000000000000 := Nat.lt_of_lt_of_le hml (Nat.le_trans (Nat.pow_le_pow_right (by decide) (show q ≤ 17 by omega)) (by decide))
              have hg : (strL s)[q]? = some (s[q]'hlt) := by rw [List.getElem?_eq_getElem (by omega)]; rfl
              clear hml
              by_cases hx : (s[q]'hlt).toNat < 48
              · have hx' : ((((s[q]'hlt).toNat : Nat) : Int)) < 48 := by omega
                have HN : Hid (nmO (strL s) = none) := hide (by
                  cases hn : nmO (strL s) with
                  | none => rfl
                  | some u =>
                    obtain ⟨d, hd⟩ := Lib.digit_of_decFrom _ _ _ (nmO_dec hn) q _ hg
                    unfold Lib.digitVal at hd
                    rw [if_neg (by omega)] at hd
                    cases hd)
                clear hg
                go_wp2
                go_ret2
                exact ⟨BQ.out, .inr ⟨HN.out, _, rfl⟩⟩
              · have hx' : ¬ ((((s[q]'hlt).toNat : Nat) : Int)) < 48 := by omega
                by_cases hy : 57 < (s[q]'hlt).toNat
                · have hy' : (57 : Int) < ((((s[q]'hlt).toNat : Nat) : Int)) := by omega
                  have HN : Hid (nmO (strL s) = none) := hide (by
                    cases hn : nmO (strL s) with
                    | none => rfl
                    | some u =>
                      obtain ⟨d, hd⟩ := Lib.digit_of_decFrom _ _ _ (nmO_dec hn) q _ hg
                      unfold Lib.digitVal at hd
                      rw [if_neg (by omega)] at hd
                      cases hd)
                  clear hg
                  go_wp2
                  go_ret2
                  exact ⟨BQ.out, .inr ⟨HN.out, _, rfl⟩⟩
                · have hy' : ¬ (57 : Int) < ((((s[q]'hlt).toNat : Nat) : Int)) := by omega
                  have HD : Hid (Lib.decFrom 0 ((strL s).take (q + 1)) = some (m * 10 + ((s[q]'hlt).toNat - 48))) := hide (Lib.decFrom_take _ _ _ _ _ _ HM.out hg (by unfold Lib.digitVal; rw [if_pos (by omega)]))
                  have hwm : IntKind.i64.wrap ((m : Int) * 10) = (m : Int) * 10 := by rw [IntKind.wrap_i64]; omega
                  have hwx : IntKind.u8.wrap (((((s[q]'hlt).toNat : Nat) : Int)) - 48) = ((((s[q]'hlt).toNat : Nat) : Int)) - 48 := by rw [IntKind.wrap_u8]; omega
                  have hwy : IntKind.i64.wrap (((((s[q]'hlt).toNat : Nat) : Int)) - 48) = ((((s[q]'hlt).toNat : Nat) : Int)) - 48 := by rw [IntKind.wrap_i64]; omega
                  have hwz : IntKind.i64.wrap ((m : Int) * 10 + (((((s[q]'hlt).toNat : Nat) : Int)) - 48)) = (m : Int) * 10 + (((((s[q]'hlt).toNat : Nat) : Int)) - 48) := by rw [IntKind.wrap_i64]; omega
                  have hwq : IntKind.i64.wrap ((q : Int) + 1) = (q : Int) + 1 := by rw [IntKind.wrap_i64]; omega
                  have HZ : Hid ((m : Int) * 10 + (((((s[q]'hlt).toNat : Nat) : Int)) - 48) = ((m * 10 + ((s[q]'hlt).toNat - 48) : Nat) : Int)) := hide (by omega)
                  clear hg
                  go_wp2
                  go_roundw
                  case rel => exact ⟨q + 1, m * 10 + ((s[q]'hlt).toNat - 48), by omega, by rw [← HZ.out], by simp, HD.out, BQ.out⟩
                  case measure => simp only [intOf]; omega
            · obtain rfl : q = s.size := by omega
              have hlt' : ¬ ((s.size : Int) < (s.size : Int)) := by omega
              have hdm : Lib.decFrom 0 (strL s) = some m := by
                have := HM.out
                rwa [List.take_of_length_le (by omega)] at this
              have hcn : Lib.decDigits m = strL s := dec_canon _ _ _ (Nat.le_refl _) (fun e => by rw [e] at hl; simp at hl; omega) HH.out hdm
              by_cases hle : m ≤ 281474976710656
              · have hle' : (m : Int) ≤ 281474976710656 := by omega
                have HN := hide (nmO_of hle hcn)
                clear hdm hcn hml
                go_wp2
                go_ret2
                exact ⟨BQ.out, .inl ⟨m, HN.out, rfl⟩⟩
              · have hle' : ¬ (m : Int) ≤ 281474976710656 := by omega
                have HN : Hid (nmO (strL s) = none) := hide (by
                  cases hn : nmO (strL s) with
                  | none => rfl
                  | some u =>
                    have e := nmO_dec hn
                    rw [hdm] at e
                    injection e with e
                    have := (nmO_some hn).1
                    omega)
                clear hdm hcn hml
                go_wp2
                go_ret2
                exact ⟨BQ.out, .inr ⟨HN.out, _, rfl⟩⟩
        · clear HX
          go_enter Tryz.func97, Tryz.ntmps97
          go_wp2
          go_loopw [6, 7] (fun n i W => ∃ q m : Nat, q ≤ s.size ∧ n = .int .i64 (m : Int) ∧ i = .int .i64 (q : Int) ∧ Lib.decFrom 0 ((strL s).take q) = some m ∧ Below w.heap.size w W) (fun _ i _ => s.size - (intOf i).toNat)
          case atStart => exact ⟨0, 0, by omega, rfl, rfl, rfl, Below.refl _ _⟩
          case round =>
            obtain ⟨q, m, hq, rfl, rfl, hm, hbw⟩ := hrel
            have HM := hide hm
            have BQ := hide hbw
            have hml : m < 10 ^ q := by
              have := decFrom_lt _ _ _ hm
              rw [List.length_take, hl, Nat.min_eq_left hq] at this
              omega
            clear hm hbw
            by_cases hlt : q < s.size
            · have hlt' : (q : Int) < (s.size : Int) := by omega
              have hm17 : m < 100000000000000000 := Nat.lt_of_lt_of_le hml (Nat.le_trans (Nat.pow_le_pow_right (by decide) (show q ≤ 17 by omega)) (by decide))
              have hg : (strL s)[q]? = some (s[q]'hlt) := by rw [List.getElem?_eq_getElem (by omega)]; rfl
              clear hml
              by_cases hx : (s[q]'hlt).toNat < 48
              · have hx' : ((((s[q]'hlt).toNat : Nat) : Int)) < 48 := by omega
                have HN : Hid (nmO (strL s) = none) := hide (by
                  cases hn : nmO (strL s) with
                  | none => rfl
                  | some u =>
                    obtain ⟨d, hd⟩ := Lib.digit_of_decFrom _ _ _ (nmO_dec hn) q _ hg
                    unfold Lib.digitVal at hd
                    rw [if_neg (by omega)] at hd
                    cases hd)
                clear hg
                go_wp2
                go_ret2
                exact ⟨BQ.out, .inr ⟨HN.out, _, rfl⟩⟩
              · have hx' : ¬ ((((s[q]'hlt).toNat : Nat) : Int)) < 48 := by omega
                by_cases hy : 57 < (s[q]'hlt).toNat
                · have hy' : (57 : Int) < ((((s[q]'hlt).toNat : Nat) : Int)) := by omega
                  have HN : Hid (nmO (strL s) = none) := hide (by
                    cases hn : nmO (strL s) with
                    | none => rfl
                    | some u =>
                      obtain ⟨d, hd⟩ := Lib.digit_of_decFrom _ _ _ (nmO_dec hn) q _ hg
                      unfold Lib.digitVal at hd
                      rw [if_neg (by omega)] at hd
                      cases hd)
                  clear hg
                  go_wp2
                  go_ret2
                  exact ⟨BQ.out, .inr ⟨HN.out, _, rfl⟩⟩
                · have hy' : ¬ (57 : Int) < ((((s[q]'hlt).toNat : Nat) : Int)) := by omega
                  have HD : Hid (Lib.decFrom 0 ((strL s).take (q + 1)) = some (m * 10 + ((s[q]'hlt).toNat - 48))) := hide (Lib.decFrom_take _ _ _ _ _ _ HM.out hg (by unfold Lib.digitVal; rw [if_pos (by omega)]))
                  have hwm : IntKind.i64.wrap ((m : Int) * 10) = (m : Int) * 10 := by rw [IntKind.wrap_i64]; omega
                  have hwx : IntKind.u8.wrap (((((s[q]'hlt).toNat : Nat) : Int)) - 48) = ((((s[q]'hlt).toNat : Nat) : Int)) - 48 := by rw [IntKind.wrap_u8]; omega
                  have hwy : IntKind.i64.wrap (((((s[q]'hlt).toNat : Nat) : Int)) - 48) = ((((s[q]'hlt).toNat : Nat) : Int)) - 48 := by rw [IntKind.wrap_i64]; omega
                  have hwz : IntKind.i64.wrap ((m : Int) * 10 + (((((s[q]'hlt).toNat : Nat) : Int)) - 48)) = (m : Int) * 10 + (((((s[q]'hlt).toNat : Nat) : Int)) - 48) := by rw [IntKind.wrap_i64]; omega
                  have hwq : IntKind.i64.wrap ((q : Int) + 1) = (q : Int) + 1 := by rw [IntKind.wrap_i64]; omega
                  have HZ : Hid ((m : Int) * 10 + (((((s[q]'hlt).toNat : Nat) : Int)) - 48) = ((m * 10 + ((s[q]'hlt).toNat - 48) : Nat) : Int)) := hide (by omega)
                  clear hg
                  go_wp2
                  go_roundw
                  case rel => exact ⟨q + 1, m * 10 + ((s[q]'hlt).toNat - 48), by omega, by rw [← HZ.out], by simp, HD.out, BQ.out⟩
                  case measure => simp only [intOf]; omega
            · obtain rfl : q = s.size := by omega
              have hlt' : ¬ ((s.size : Int) < (s.size : Int)) := by omega
              have hdm : Lib.decFrom 0 (strL s) = some m := by
                have := HM.out
                rwa [List.take_of_length_le (by omega)] at this
              have hcn : Lib.decDigits m = strL s := dec_canon _ _ _ (Nat.le_refl _) (fun e => by rw [e] at hl; simp at hl; omega) HH.out hdm
              by_cases hle : m ≤ 281474976710656
              · have hle' : (m : Int) ≤ 281474976710656 := by omega
                have HN := hide (nmO_of hle hcn)
                clear hdm hcn hml
                go_wp2
                go_ret2
                exact ⟨BQ.out, .inl ⟨m, HN.out, rfl⟩⟩
              · have hle' : ¬ (m : Int) ≤ 281474976710656 := by omega
                have HN : Hid (nmO (strL s) = none) := hide (by
                  cases hn : nmO (strL s) with
                  | none => rfl
                  | some u =>
                    have e := nmO_dec hn
                    rw [hdm] at e
                    injection e with e
                    have := (nmO_some hn).1
                    omega)
                clear hdm hcn hml
                go_wp2
                go_ret2
                exact ⟨BQ.out, .inr ⟨HN.out, _, rfl⟩⟩

end Go.Proofs.YtlgcjdgcgnlcaaaGreatDoor

/-
  Texts as the document reads and writes them: plain, index.
-/
namespace Go.Proofs.YtlgcjdgcgnlcaaaGreatDoor
open Go.RowKit
set_option linter.unusedVariables false
set_option linter.unusedSimpArgs false

/-- Noughts ahead struck. -/
def stz : List UInt8 → List UInt8
  | [] => []
  | [a] => [a]
  | a :: b :: l => if a = 48 then stz (b :: l) else a :: b :: l
theorem stz_ne : ∀ l : List UInt8, l ≠ [] → stz l ≠ []
  | [], h => absurd rfl h
  | [a], _ => by simp [stz]
  | a :: b :: l, _ => by
    unfold stz
    split
    · exact stz_ne (b :: l) (by simp)
    · simp
theorem stz_head : ∀ l : List UInt8, 1 < (stz l).length → (stz l).head? ≠ some 48
  | [], h => by simp [stz] at h
  | [a], h => by simp [stz] at h
  | a :: b :: l, h => by
    unfold stz at h ⊢
    split at h
    · rename_i e; rw [if_pos e]; exact stz_head (b :: l) h
    · rename_i e; rw [if_neg e]; simpa using e
theorem stz_dec : ∀ l : List UInt8, Lib.decFrom 0 (stz l) = Lib.decFrom 0 l
  | [] => rfl
  | [a] => rfl
  | a :: b :: l => by
    unfold stz
    split
    · rename_i e
      subst e
      rw [stz_dec (b :: l)]
      rfl
    · rfl
theorem stz_num {l : List UInt8} {v : Nat} (hne : l ≠ []) (hd : Lib.decFrom 0 l = some v) (hv : v ≤ 281474976710656) : nmO (stz l) = some v :=
  nmO_of hv (dec_canon _ _ _ (Nat.le_refl _) (stz_ne l hne) (stz_head l) (by rw [stz_dec]; exact hd))
theorem stz_same {l : List UInt8} (h : ¬ (1 < l.length ∧ l.head? = some 48)) : stz l = l := by
  match l with
  | [] => rfl
  | [a] => rfl
  | a :: b :: l =>
    unfold stz
    rw [if_neg (fun e => h ⟨by simp, by simp [e]⟩)]
theorem stz_tail {l : List UInt8} (h1 : 1 < l.length) (h2 : l.head? = some 48) : stz (l.drop 1) = stz l := by
  match l with
  | [] => simp at h1
  | [a] => simp at h1
  | a :: b :: l =>
    simp at h2
    conv => rhs; unfold stz
    rw [if_pos h2]
    rfl
def strLen : Value → Nat
  | .string s => s.size
  | _ => 0
set_option maxRecDepth 100000 in
set_option maxHeartbeats 1000000 in
theorem plain_any (s : List UInt8) (w : World) (hs : s.length ≤ 16777216) : Calls Tryz.prog 76 #[.string (bA s)] w fun r w' => Below w.heap.size w w' ∧
      ((∃ u : Nat, nmO (stz s) = some u ∧ r = .returned (.tuple #[.int .i64 (u : Int), .bool true])) ∨ (nmO (stz s) = none ∧ ∃ x, r = .returned (.tuple #[.int .i64 x, .bool false]))) := by
  go_enter Tryz.func76, Tryz.ntmps76
  go_wp2_with fail
  go_loopw [0] (fun v wr => ∃ q : List UInt8, v = .string (bA q) ∧ q.length ≤ s.length ∧ Hid (stz q = stz s) ∧ Hid (Below w.heap.size w wr)) (fun v _ => strLen v)
  case atStart => exact ⟨s, rfl, Nat.le_refl _, hide rfl, hide (Below.refl _ _)⟩
  case round =>
    obtain ⟨q, rfl, hq, HQ, HB⟩ := hrel
    have hsz := bA_size q
    by_cases h1 : 1 < q.length
    · have h1' : (1 : Int) < ((bA q).size : Int) := by rw [hsz]; omega
      have hz' : (0 : Int) < ((bA q).size : Int) := by rw [hsz]; omega
      have hz : 0 < (bA q).size := by rw [hsz]; omega
      have hg0 : q.head? = some ((bA q)[0]'hz) := by
        rw [List.head?_eq_getElem?, List.getElem?_eq_getElem (by omega)]
        rfl
      by_cases h48 : ((bA q)[0]'hz) = 48
      · have e48 : (((((bA q)[0]'hz).toNat : Nat) : Int) == 48) = true := by rw [h48]; rfl
        have HT : Hid (stz (q.drop 1) = stz s) := hide (by rw [stz_tail h1 (by rw [hg0, h48])]; exact HQ.out)
        have x1 := slice_str q 1 1 rfl (by omega)
        have HL : Hid ((q.drop 1).length = q.length - 1) := hide (by simp)
        generalize q.drop 1 = q' at *
        clear hg0 h48 HQ
        go_wp2_with fail
        refine ⟨⟨q', rfl, by have := HL.out; omega, HT, HB⟩, ?_⟩
        show (bA q').size < (bA q).size
        rw [bA_size, bA_size, HL.out]
        omega
      · have e48 : (((((bA q)[0]'hz).toNat : Nat) : Int) == 48) = false := by
          simp only [beq_eq_false_iff_ne, ne_eq]
          intro e
          refine h48 (UInt8.toNat_inj.1 ?_)
          have : ((bA q)[0]'hz).toNat = 48 := by omega
          rw [this]; rfl
        have HE : Hid (q = stz s) := hide (by rw [← HQ.out]; exact (stz_same (fun h => h48 (Option.some.inj (hg0.symm.trans h.2)))).symm)
        clear hg0 h48
        have HN := hide (num_any (bA q) wr (by rw [hsz]; omega))
        go_wp2_with fail
        refine HN.out.mono ?_
        rintro r w2 ⟨hb2, h⟩
        have B2 := hide (on_below HB.out hb2)
        rw [strL_bA, HE.out] at h
        clear HN hb2
        rcases h with ⟨u, hu, rfl⟩ | ⟨hu, x, rfl⟩
        · have HU := hide hu
          clear hu
          go_wp2
          go_ret2
          exact ⟨B2.out, .inl ⟨u, HU.out, rfl⟩⟩
        · have HU := hide hu
          clear hu
          go_wp2
          go_ret2
          exact ⟨B2.out, .inr ⟨HU.out, _, rfl⟩⟩
    · have h1' : ¬ ((1 : Int) < ((bA q).size : Int)) := by rw [hsz]; omega
      have HE : Hid (q = stz s) := hide (by rw [← HQ.out]; exact (stz_same (fun h => h1 h.1)).symm)
      have HN := hide (num_any (bA q) wr (by rw [hsz]; omega))
      go_wp2_with fail
      refine HN.out.mono ?_
      rintro r w2 ⟨hb2, h⟩
      have B2 := hide (on_below HB.out hb2)
      rw [strL_bA, HE.out] at h
      clear HN hb2
      rcases h with ⟨u, hu, rfl⟩ | ⟨hu, x, rfl⟩
      · have HU := hide hu
        clear hu
        go_wp2
        go_ret2
        exact ⟨B2.out, .inl ⟨u, HU.out, rfl⟩⟩
      · have HU := hide hu
        clear hu
        go_wp2
        go_ret2
        exact ⟨B2.out, .inr ⟨HU.out, _, rfl⟩⟩
/-- Groups of three. -/
def grpx : List UInt8 → List UInt8
  | a :: b :: c :: l => 120 :: a :: b :: c :: 47 :: grpx l
  | _ => []
theorem grpx_app : ∀ (A B : List UInt8), A.length % 3 = 0 → grpx (A ++ B) = grpx A ++ grpx B
  | [], B, _ => rfl
  | [a], B, h => by simp at h
  | [a, b], B, h => by simp at h
  | a :: b :: c :: l, B, h => by
    have ih := grpx_app l B (by simp only [List.length_cons] at h; omega)
    show 120 :: a :: b :: c :: 47 :: grpx (l ++ B) = (120 :: a :: b :: c :: 47 :: grpx l) ++ grpx B
    rw [ih]
    rfl
theorem grpx_d3 (n : Nat) : grpx (d3 n) = 120 :: d3 n ++ [47] := rfl
theorem gD_three : ∀ (k r : Nat), (gD k r).length % 3 = 0
  | 0, r => rfl
  | k + 1, r => by
    unfold gD
    split
    · rfl
    · have := gD_three k (r / 1000)
      rw [List.length_append, d3_length]
      omega
theorem grpx_gD : ∀ (k r : Nat), grpx (gD k r) = ixF k r
  | 0, r => rfl
  | k + 1, r => by
    unfold gD ixF
    split
    · rfl
    · rw [grpx_app _ _ (gD_three k _), grpx_gD k (r / 1000), grpx_d3]
/-- Digits with noughts ahead up to a third. -/
def pd3 (l : List UInt8) : List UInt8 := List.replicate ((3 - l.length % 3) % 3) 48 ++ l
theorem pd3_app (A : List UInt8) (n : Nat) : pd3 (A ++ d3 n) = pd3 A ++ d3 n := by
  unfold pd3
  rw [List.length_append, d3_length, show (A.length + 3) % 3 = A.length % 3 by omega, List.append_assoc]
theorem dec_three {n : Nat} (h : 1000 ≤ n) : Lib.decDigits n = Lib.decDigits (n / 1000) ++ d3 (n % 1000) := by
  rw [dec_snoc (by omega), dec_snoc (by omega), dec_snoc (by omega)]
  have e1 : n / 10 / 10 / 10 = n / 1000 := by omega
  have e2 : n / 10 / 10 % 10 = n % 1000 / 100 := by omega
  have e3 : n / 10 % 10 = n % 1000 / 10 % 10 := by omega
  have e4 : n % 10 = n % 1000 % 10 := by omega
  rw [e1, e2, e3, e4]
  simp [d3]
theorem pad_small {n : Nat} (h : n < 1000) : pd3 (Lib.decDigits n) = d3 n := by
  by_cases h1 : n < 10
  · rw [Lib.decDigits_one h1]
    have e1 : n / 100 = 0 := by omega
    have e2 : n / 10 % 10 = 0 := by omega
    have e3 : n % 10 = n := by omega
    unfold d3
    rw [e1, e2, e3]
    rfl
  · by_cases h2 : n < 100
    · rw [dec_snoc h1, Lib.decDigits_one (by omega)]
      have e1 : n / 100 = 0 := by omega
      have e2 : n / 10 % 10 = n / 10 := by omega
      unfold d3
      rw [e1, e2]
      rfl
    · rw [dec_snoc h1, dec_snoc (by omega), Lib.decDigits_one (by omega)]
      have e1 : n / 10 / 10 = n / 100 := by omega
      simp [pd3, d3, e1]
theorem gD_pad : ∀ (k r : Nat), 0 < r → r < 1000 ^ k → gD k r = pd3 (Lib.decDigits r)
  | 0, r, h0, h => by simp at h; omega
  | k + 1, r, h0, h => by
    unfold gD
    rw [if_neg (by omega)]
    by_cases hr : r < 1000
    · have e1 : r / 1000 = 0 := by omega
      have e2 : r % 1000 = r := by omega
      rw [e1, e2, pad_small hr]
      cases k <;> simp [gD]
    · rw [dec_three (by omega), pd3_app, gD_pad k (r / 1000) (by omega) (by rw [Nat.pow_succ] at h; omega)]
theorem ixD_pad {n : Nat} (h : n < 1000000000000000000) : ixD n = pd3 (Lib.decDigits n) := by
  unfold ixD
  by_cases hr : n < 1000
  · have e1 : n / 1000 = 0 := by omega
    have e2 : n % 1000 = n := by omega
    rw [e1, e2, pad_small hr]
    rfl
  · rw [dec_three (by omega), pd3_app, gD_pad 5 (n / 1000) (by omega) (by omega)]
theorem pd3_step {l : List UInt8} (h : l.length % 3 ≠ 0) : pd3 (48 :: l) = pd3 l := by
  unfold pd3
  have e1 : (3 - (48 :: l).length % 3) % 3 + 1 = (3 - l.length % 3) % 3 := by simp only [List.length_cons]; omega
  rw [← e1, List.replicate_succ', List.append_assoc]
  rfl
theorem pd3_done {l : List UInt8} (h : l.length % 3 = 0) : pd3 l = l := by
  unfold pd3
  rw [h]
  rfl
theorem pd3_len (l : List UInt8) : l.length ≤ (pd3 l).length := by
  unfold pd3
  rw [List.length_append]
  omega
theorem ixD_len (n : Nat) : (ixD n).length ≤ 18 := by
  have := gD_len 5 (n / 1000)
  simp only [ixD, List.length_append, d3_length]
  omega
theorem slice_to (l : List UInt8) (k : Nat) (K : Int) (hK : K = (k : Int)) (hk : k ≤ l.length) (v : World) : (Instr.slice 9 (.string (bA l)) none (some (.int .i64 K)) none).run Tryz.prog v = .ok (.string (bA (l.take k))) v := by
  subst hK
  rw [run_slice_string_to_if v 9 (bA l) .i64 (k : Int) Tryz.underlying9, if_pos ⟨by omega, by rw [bA_size]; omega⟩]
  congr 2
  apply eq_of_strL
  rw [strL_bA]
  show (ByteArray.extract (bA l) 0 (k : Int).toNat).data.toList = _
  rw [ByteArray.data_extract, Array.toList_extract, Int.toNat_natCast]
  show List.extract l 0 k = _
  simp only [List.extract, List.drop_zero, Nat.sub_zero]
set_option maxRecDepth 100000 in
set_option maxHeartbeats 1000000 in
theorem indexR_any (n : Nat) (w : World) (hn : n ≤ 281474976710656) : Calls Tryz.prog 92 #[.int .i64 (n : Int)] w fun r w' => r = .returned (.string (bA (ixP n))) ∧ Below w.heap.size w w' := by
  have HD := hide (digits_any n n w (Nat.le_refl _) (by omega))
  have HX := hide (ixD_pad (n := n) (by omega))
  have hdl := dec_len n (by omega)
  go_enter Tryz.func92, Tryz.ntmps92
  go_wp2_with fail
  refine HD.out.mono ?_
  rintro r w1 ⟨rfl, e1⟩
  replace e1 := e1.symm
  subst e1
  clear HD
  generalize Lib.decDigits n = d0 at *
  go_wp2_with fail
  go_loopw [3] (fun v wr => ∃ q : List UInt8, v = .string (bA q) ∧ q.length ≤ 30 ∧ Hid (pd3 q = ixD n) ∧ Hid (Below w.heap.size w wr)) (fun v _ => (3 - strLen v % 3) % 3)
  case atStart => exact ⟨d0, rfl, by omega, hide HX.out.symm, hide (Below.refl _ _)⟩
  case round =>
    obtain ⟨q, rfl, hq, HQ, HB⟩ := hrel
    have hsz := bA_size q
    obtain ⟨z, hz⟩ : ∃ z, q.length % 3 = z := ⟨_, rfl⟩
    have e3 : ((q.length : Nat) : Int).tmod 3 = (z : Int) := by rw [Int.tmod_eq_emod_of_nonneg (by omega)]; omega
    have e4 : ((q.length : Nat) : Int) % 3 = (z : Int) := by omega
    by_cases h0 : z = 0
    · subst h0
      have e : q = ixD n := by rw [← HQ.out, pd3_done hz]
      have HE : Hid (q = gD 5 (n / 1000) ++ d3 (n % 1000)) := hide e
      have HF : Hid (grpx (gD 5 (n / 1000)) ++ d3 (n % 1000) = ixP n) := hide (by rw [grpx_gD]; rfl)
      have H3 : Hid ((gD 5 (n / 1000)).length % 3 = 0) := hide (gD_three _ _)
      have H4 := hide (d3_length (n % 1000))
      clear e HQ
      generalize gD 5 (n / 1000) = A0 at *
      generalize d3 (n % 1000) = B0 at *
      have hA18 : A0.length + 3 ≤ 30 := by
        have := congrArg List.length HE.out
        rw [List.length_append, H4.out] at this
        omega
      go_wp2_with fail
      clear hz e3 e4 hsz
      go_loopw [3, 4] (fun v o wr => ∃ A O : List UInt8, v = .string (bA (A ++ B0)) ∧ o = .string (bA O) ∧ A.length + 3 ≤ 30 ∧ O.length + 5 * A.length ≤ 300 ∧ Hid (A.length % 3 = 0) ∧ Hid ((O ++ grpx A) ++ B0 = ixP n) ∧ Hid (Below w.heap.size w wr)) (fun v _ _ => strLen v)
      case atStart => exact ⟨A0, [], by rw [HE.out], rfl, hA18, by simp; omega, H3, hide (by simpa using HF.out), HB⟩
      case round =>
        obtain ⟨A, O, rfl, rfl, hA, hO, HA3, HG, HB2⟩ := hrel
        clear HB HE HF H3 hA18 hq
        have hb3 := H4.out
        by_cases hc : A = []
        · subst hc
          have hsz := bA_size B0
          rw [hb3] at hsz
          have HO : Hid (O ++ B0 = ixP n ∧ O.length + B0.length ≤ 9000) := hide ⟨by have := HG.out; simpa [grpx] using this, by rw [hb3]; simp at hO; omega⟩
          rw [List.nil_append]
          go_wp2_with (refine step_addR (p := O) (q := B0) (r := ixP n) rfl rfl rfl HO.out ?_)
          go_ret
          exact ⟨rfl, HB2.out⟩
        · obtain ⟨a, b, c, A', rfl⟩ : ∃ a b c l, A = a :: b :: c :: l := by
            have h3 := HA3.out
            match A, hc, h3 with
            | [], h, _ => exact absurd rfl h
            | [a], _, h => simp at h
            | [a, b], _, h => simp at h
            | a :: b :: c :: l, _, _ => exact ⟨a, b, c, l, rfl⟩
          have x1 := slice_to ((a :: b :: c :: A') ++ B0) 3 3 rfl (by simp)
          have x2 := slice_str ((a :: b :: c :: A') ++ B0) 3 3 rfl (by simp)
          rw [show ((a :: b :: c :: A') ++ B0).take 3 = [a, b, c] from rfl] at x1
          rw [show ((a :: b :: c :: A') ++ B0).drop 3 = A' ++ B0 from rfl] at x2
          have hsz := bA_size ((a :: b :: c :: A') ++ B0)
          rw [List.length_append, List.length_cons, List.length_cons, List.length_cons, hb3] at hsz
          simp only [List.length_cons] at hA hO
          have HA4 : Hid (A'.length % 3 = 0) := hide (by have := HA3.out; simp only [List.length_cons] at this; omega)
          obtain ⟨O1, h1⟩ : ∃ x, O ++ [120] = x := ⟨_, rfl⟩
          obtain ⟨O2, h2⟩ : ∃ x, O1 ++ [a, b, c] = x := ⟨_, rfl⟩
          obtain ⟨O3, h3⟩ : ∃ x, O2 ++ [47] = x := ⟨_, rfl⟩
          have l1 : O1.length = O.length + 1 := by rw [← h1]; simp
          have l2 : O2.length = O.length + 4 := by rw [← h2]; simp; omega
          have l3 : O3.length = O.length + 5 := by rw [← h3]; simp; omega
          have W1 : Hid (O ++ [120] = O1 ∧ O.length + ([120] : List UInt8).length ≤ 9000) := hide ⟨h1, by simp; omega⟩
          have W2 : Hid (O1 ++ [a, b, c] = O2 ∧ O1.length + ([a, b, c] : List UInt8).length ≤ 9000) := hide ⟨h2, by simp; omega⟩
          have W3 : Hid (O2 ++ [47] = O3 ∧ O2.length + ([47] : List UInt8).length ≤ 9000) := hide ⟨h3, by simp; omega⟩
          have HG2 : Hid ((O3 ++ grpx A') ++ B0 = ixP n) := hide (by
            rw [← HG.out, ← h3, ← h2, ← h1]
            simp [grpx])
          have HS4 := hide (bA_size (A' ++ B0))
          generalize hS : (a :: b :: c :: A') ++ B0 = SS at *
          generalize ([a, b, c] : List UInt8) = t3 at *
          obtain ⟨R, hR⟩ : ∃ R, A' ++ B0 = R := ⟨_, rfl⟩
          rw [hR] at x2 HS4
          have hgt : (3 : Int) < ((bA SS).size : Int) := by rw [hsz]; omega
          clear h1 h2 h3 HG HA3
          go_wp2_with (first | (refine step_addR (p := O) (q := [120]) (r := O1) rfl rfl rfl W1.out ?_) | (refine step_addR (p := O1) (q := t3) (r := O2) rfl rfl rfl W2.out ?_) | (refine step_addR (p := O2) (q := [47]) (r := O3) rfl rfl rfl W3.out ?_))
          refine ⟨⟨A', O3, by rw [hR], rfl, by omega, by omega, HA4, HG2, HB2⟩, ?_⟩
          show (bA R).size < (bA SS).size
          rw [hsz, HS4.out, ← hR, List.length_append, hb3]
          omega
    · have h0' : ((z : Int) == 0) = false := by simp; omega
      have h0'' : ¬ (z : Int) = 0 := by omega
      have Z1 : Hid (([48] : List UInt8) ++ q = 48 :: q ∧ ([48] : List UInt8).length + q.length ≤ 9000) := hide ⟨rfl, by simp; omega⟩
      have HN : Hid (pd3 (48 :: q) = ixD n) := hide (by rw [pd3_step (by omega)]; exact HQ.out)
      go_wp2_with (refine step_addR (p := [48]) (q := q) (r := 48 :: q) rfl rfl rfl Z1.out ?_)
      have hlen : (48 :: q).length ≤ 18 := by
        have h1 := pd3_len (48 :: q)
        rw [HN.out] at h1
        exact Nat.le_trans h1 (ixD_len n)
      refine ⟨⟨48 :: q, rfl, by omega, HN, HB⟩, ?_⟩
      show (3 - (bA (48 :: q)).size % 3) % 3 < (3 - (bA q).size % 3) % 3
      rw [bA_size, bA_size, List.length_cons]
      omega
end Go.Proofs.YtlgcjdgcgnlcaaaGreatDoor

/-
  Which tiles may be: the document's.
-/
namespace Go.Proofs.YtlgcjdgcgnlcaaaGreatDoor
open Go.RowKit
set_option linter.unusedVariables false

theorem below_of_eq {v v' : World} (h : v' = v) : Below v.heap.size v v' := by rw [h]; exact Below.refl _ _
theorem tOK_iff {H L I N P : Nat} (hH : isH H) (hP : 2 ^ H = P) (hN : 1 ≤ N) (hNP : N ≤ P) : tOK (H : Int) (L : Int) (I : Int) (N : Int) ↔ I * P + N ≤ 281474976710656 / 2 ^ (H * L) := by
  constructor
  · rintro ⟨H', L', I', N', e1, e2, e3, e4, _, h1, h2⟩
    obtain rfl : H = H' := by omega
    obtain rfl : L = L' := by omega
    obtain rfl : I = I' := by omega
    obtain rfl : N = N' := by omega
    unfold tW tOv at h2
    rw [hP] at h2
    generalize I * P = X at *
    generalize 281474976710656 / 2 ^ (H * L) = D at *
    omega
  · intro h
    refine ⟨H, L, I, N, rfl, rfl, rfl, rfl, hH, hN, ?_⟩
    unfold tW tOv
    rw [hP]
    generalize I * P = X at *
    generalize 281474976710656 / 2 ^ (H * L) = D at *
    omega
set_option maxRecDepth 100000 in
set_option maxHeartbeats 2000000 in
theorem validTR_any (h l i n : Int) : ∃ q : Bool, (q = true ↔ tOK h l i n) ∧ ∀ w : World,
    Calls Tryz.prog 48 #[.agg (c4 h l i n).toArray] w fun r w' => r = .returned (.bool q) ∧ Below w.heap.size w w' := by
  by_cases hh : h < 1 ∨ 8 < h
  · refine ⟨false, ⟨(fun e => by cases e), fun ⟨H, L, I, N, e1, e2, e3, e4, hH, _⟩ => by have := hH.1; have := hH.2; omega⟩, fun w => ?_⟩
    have HHC : Hid (∀ v : World, Calls Tryz.prog 65 #[.int .i64 h] v fun r w' => r = .returned (.bool false) ∧ Below v.heap.size v w') := hide (fun v => (heightR_no h v hh).mono (fun r v' hv => ⟨hv.1, below_of_eq hv.2⟩))
    clear hh
    go_enter Tryz.func48, Tryz.ntmps48
    go_wp2_with (first | (refine step_box (cs := c4 h l i n) rfl rfl ?_; intro w1 g1 hg1 hle1 hb1; have HG1 := hide hg1; clear hg1))
    have t0 := Sub.cell HG1.out.four.1
    have t1 := Sub.cell HG1.out.four.2.1
    have t2 := Sub.cell HG1.out.four.2.2.1
    have t3 := Sub.cell HG1.out.four.2.2.2
    have hne := Sub.one w1
    refine wp_region_sub (by kernel_rfl) (by kernel_rfl) ?_
    repeat (go_big_quiet_step (fail))
    go_big_quiet_step ((go_at_call 65; exact sub_call (HHC.out _)))
    repeat (go_big_quiet_step (fail))
    refine wpQuiet_nil ?_
    rintro _ ⟨⟨w2, hb2⟩, rfl⟩
    have q2 := on_below hb1 hb2
    have G2 := hide (HG1.out.on hb2)
    clear hb1 hb2 HG1 t0 t1 t2 t3 hne
    go_wp2
    go_ret
    exact ⟨rfl, q2⟩
  obtain ⟨H, hHe⟩ : ∃ H : Nat, h = (H : Int) := ⟨h.toNat, by omega⟩
  have hH : isH H := ⟨by omega, by omega⟩
  obtain ⟨P, hP⟩ : ∃ P, 2 ^ H = P := ⟨_, rfl⟩
  have hp := hH.pow
  rw [hP] at hp
  have HHC : Hid (∀ v : World, Calls Tryz.prog 65 #[.int .i64 h] v fun r w' => r = .returned (.bool true) ∧ Below v.heap.size v w') := hide (fun v => by
    rw [hHe]
    exact (heightR_yes H v hH).mono (fun r v' hv => ⟨hv.1, below_of_eq hv.2⟩))
  have HFC : Hid (∀ v : World, Calls Tryz.prog 36 #[.int .i64 h] v fun r w' => r = .returned (.int .i64 (P : Int)) ∧ Below v.heap.size v w') := hide (fun v => by
    rw [hHe]
    exact (full_any H P v hH hP).mono (fun r v' hv => ⟨hv.1, below_of_eq hv.2⟩))
  have hP2 : (P : Int) ≤ 256 := by omega
  have HHE := hide hHe
  have h1 : 1 ≤ h := by omega
  have h8 : h ≤ 8 := by omega
  clear hh hHe
  by_cases hl : l < 0
  · refine ⟨false, ⟨(fun e => by cases e), fun ⟨H, L, I, N, e1, e2, e3, e4, hH, _⟩ => by omega⟩, fun w => ?_⟩
    clear hp
    have da0 : decide (l < 0) = true := by simp; omega
    go_enter Tryz.func48, Tryz.ntmps48
    go_wp2_with (first | (refine step_box (cs := c4 h l i n) rfl rfl ?_; intro w1 g1 hg1 hle1 hb1; have HG1 := hide hg1; clear hg1))
    have t0 := Sub.cell HG1.out.four.1
    have t1 := Sub.cell HG1.out.four.2.1
    have t2 := Sub.cell HG1.out.four.2.2.1
    have t3 := Sub.cell HG1.out.four.2.2.2
    have hne := Sub.one w1
    refine wp_region_sub (by kernel_rfl) (by kernel_rfl) ?_
    repeat (go_big_quiet_step (fail))
    go_big_quiet_step ((go_at_call 65; exact sub_call (HHC.out _)))
    repeat (go_big_quiet_step (fail))
    refine wpQuiet_nil ?_
    rintro _ ⟨⟨w2, hb2⟩, rfl⟩
    have q2 := on_below hb1 hb2
    have G2 := hide (HG1.out.on hb2)
    clear hb1 hb2 HG1 t0 t1 t2 t3 hne
    go_wp2
    go_ret
    exact ⟨rfl, q2⟩
  have da0 : decide (l < 0) = false := by simp; omega
  by_cases hl2 : l > 48
  · refine ⟨false, ⟨(fun e => by cases e), fun ⟨H, L, I, N, e1, e2, e3, e4, hH, k1, k2⟩ => by have := (tW_bd hH (Nat.le_refl _) (Nat.lt_of_lt_of_le k1 k2)).2.2; omega⟩, fun w => ?_⟩
    clear hp
    have db0 : decide (l > 48) = true := by simp; omega
    have db1 : decide (48 < l) = true := by simp; omega
    go_enter Tryz.func48, Tryz.ntmps48
    go_wp2_with (first | (refine step_box (cs := c4 h l i n) rfl rfl ?_; intro w1 g1 hg1 hle1 hb1; have HG1 := hide hg1; clear hg1))
    have t0 := Sub.cell HG1.out.four.1
    have t1 := Sub.cell HG1.out.four.2.1
    have t2 := Sub.cell HG1.out.four.2.2.1
    have t3 := Sub.cell HG1.out.four.2.2.2
    have hne := Sub.one w1
    refine wp_region_sub (by kernel_rfl) (by kernel_rfl) ?_
    repeat (go_big_quiet_step (fail))
    go_big_quiet_step ((go_at_call 65; exact sub_call (HHC.out _)))
    repeat (go_big_quiet_step (fail))
    refine wpQuiet_nil ?_
    rintro _ ⟨⟨w2, hb2⟩, rfl⟩
    have q2 := on_below hb1 hb2
    have G2 := hide (HG1.out.on hb2)
    clear hb1 hb2 HG1 t0 t1 t2 t3 hne
    go_wp2
    go_ret
    exact ⟨rfl, q2⟩
  have db0 : decide (l > 48) = false := by simp; omega
  have db1 : decide (48 < l) = false := by simp; omega
  by_cases hi : i < 0
  · refine ⟨false, ⟨(fun e => by cases e), fun ⟨H, L, I, N, e1, e2, e3, e4, hH, _⟩ => by omega⟩, fun w => ?_⟩
    clear hp
    have dc0 : decide (i < 0) = true := by simp; omega
    go_enter Tryz.func48, Tryz.ntmps48
    go_wp2_with (first | (refine step_box (cs := c4 h l i n) rfl rfl ?_; intro w1 g1 hg1 hle1 hb1; have HG1 := hide hg1; clear hg1))
    have t0 := Sub.cell HG1.out.four.1
    have t1 := Sub.cell HG1.out.four.2.1
    have t2 := Sub.cell HG1.out.four.2.2.1
    have t3 := Sub.cell HG1.out.four.2.2.2
    have hne := Sub.one w1
    refine wp_region_sub (by kernel_rfl) (by kernel_rfl) ?_
    repeat (go_big_quiet_step (fail))
    go_big_quiet_step ((go_at_call 65; exact sub_call (HHC.out _)))
    repeat (go_big_quiet_step (fail))
    refine wpQuiet_nil ?_
    rintro _ ⟨⟨w2, hb2⟩, rfl⟩
    have q2 := on_below hb1 hb2
    have G2 := hide (HG1.out.on hb2)
    clear hb1 hb2 HG1 t0 t1 t2 t3 hne
    go_wp2
    go_ret
    exact ⟨rfl, q2⟩
  have dc0 : decide (i < 0) = false := by simp; omega
  by_cases hn : n < 1
  · refine ⟨false, ⟨(fun e => by cases e), fun ⟨H, L, I, N, e1, e2, e3, e4, hH, _⟩ => by omega⟩, fun w => ?_⟩
    clear hp
    have dd0 : decide (n < 1) = true := by simp; omega
    go_enter Tryz.func48, Tryz.ntmps48
    go_wp2_with (first | (refine step_box (cs := c4 h l i n) rfl rfl ?_; intro w1 g1 hg1 hle1 hb1; have HG1 := hide hg1; clear hg1))
    have t0 := Sub.cell HG1.out.four.1
    have t1 := Sub.cell HG1.out.four.2.1
    have t2 := Sub.cell HG1.out.four.2.2.1
    have t3 := Sub.cell HG1.out.four.2.2.2
    have hne := Sub.one w1
    refine wp_region_sub (by kernel_rfl) (by kernel_rfl) ?_
    repeat (go_big_quiet_step (fail))
    go_big_quiet_step ((go_at_call 65; exact sub_call (HHC.out _)))
    repeat (go_big_quiet_step (fail))
    refine wpQuiet_nil ?_
    rintro _ ⟨⟨w2, hb2⟩, rfl⟩
    have q2 := on_below hb1 hb2
    have G2 := hide (HG1.out.on hb2)
    clear hb1 hb2 HG1 t0 t1 t2 t3 hne
    go_wp2
    go_ret
    exact ⟨rfl, q2⟩
  have dd0 : decide (n < 1) = false := by simp; omega
  by_cases hn2 : n > (P : Int)
  · refine ⟨false, ⟨(fun e => by cases e), fun ⟨H', L, I, N, e1, e2, e3, e4, hH, k1, k2⟩ => by
      have h3 := tW_le H' L I 281474976710656
      have h4 : H' = H := by have := HHE.out; omega
      rw [h4] at k2 h3
      rw [hP] at h3
      omega⟩, fun w => ?_⟩
    clear hp
    have de0 : decide (n > (P : Int)) = true := by simp; omega
    have de1 : decide ((P : Int) < n) = true := by simp; omega
    go_enter Tryz.func48, Tryz.ntmps48
    go_wp2_with (first | (refine step_box (cs := c4 h l i n) rfl rfl ?_; intro w1 g1 hg1 hle1 hb1; have HG1 := hide hg1; clear hg1))
    have t0 := Sub.cell HG1.out.four.1
    have t1 := Sub.cell HG1.out.four.2.1
    have t2 := Sub.cell HG1.out.four.2.2.1
    have t3 := Sub.cell HG1.out.four.2.2.2
    have hne := Sub.one w1
    refine wp_region_sub (by kernel_rfl) (by kernel_rfl) ?_
    repeat (go_big_quiet_step (fail))
    go_big_quiet_step ((go_at_call 65; exact sub_call (HHC.out _)))
    repeat (go_big_quiet_step (fail))
    go_big_quiet_step ((go_at_call 36; exact sub_call (HFC.out _)))
    repeat (go_big_quiet_step (fail))
    refine wpQuiet_nil ?_
    rintro _ ⟨⟨w2, hb2⟩, rfl⟩
    have q2 := on_below hb1 hb2
    have G2 := hide (HG1.out.on hb2)
    clear hb1 hb2 HG1 t0 t1 t2 t3 hne
    obtain ⟨c0, c1, c2, c3⟩ := G2.out.four
    go_wp2
    go_ret
    exact ⟨rfl, q2⟩
  have de0 : decide (n > (P : Int)) = false := by simp; omega
  have de1 : decide ((P : Int) < n) = false := by simp; omega
  obtain ⟨L, hLe⟩ : ∃ H : Nat, l = (H : Int) := ⟨l.toNat, by omega⟩
  obtain ⟨I, hIe⟩ : ∃ H : Nat, i = (H : Int) := ⟨i.toNat, by omega⟩
  obtain ⟨N, hNe⟩ : ∃ H : Nat, n = (H : Int) := ⟨n.toNat, by omega⟩
  have hiff : tOK h l i n ↔ I * P + N ≤ 281474976710656 / 2 ^ (H * L) := by rw [HHE.out, hLe, hIe, hNe]; exact tOK_iff hH hP (by omega) (by omega)
  have HIF := hide hiff
  have hM : l * h = ((H * L : Nat) : Int) := by rw [HHE.out, hLe, Int.natCast_mul, Int.mul_comm]
  have hMb : H * L ≤ 384 := by
    have := Nat.mul_le_mul hH.2 (show L ≤ 48 by omega)
    omega
  obtain ⟨M, HM⟩ : ∃ M, Hid (H * L = M) := ⟨_, hide rfl⟩
  rw [HM.out] at hM hMb HIF
  clear hiff hp
  have HIE := hide hIe
  have HNE := hide hNe
  have HPP := hide hP
  have hN1 : 1 ≤ N := by omega
  have hNP : N ≤ P := by omega
  have hP0 : 0 < P := by have := hH.pow.1; rw [hP] at this; omega
  clear hLe hIe hNe hP
  by_cases hM2 : (M : Int) > 48
  · refine ⟨false, ⟨(fun e => by cases e), fun e => by
      have h3 := HIF.out.1 e
      have h4 := tOv_high (h := H) (l := L) (n := 281474976710656) (Nat.le_refl _) (by rw [HM.out]; omega)
      unfold tOv at h4
      rw [HM.out] at h4
      rw [h4] at h3
      omega⟩, fun w => ?_⟩
    go_enter Tryz.func48, Tryz.ntmps48
    go_wp2_with (first | (refine step_box (cs := c4 h l i n) rfl rfl ?_; intro w1 g1 hg1 hle1 hb1; have HG1 := hide hg1; clear hg1))
    have t0 := Sub.cell HG1.out.four.1
    have t1 := Sub.cell HG1.out.four.2.1
    have t2 := Sub.cell HG1.out.four.2.2.1
    have t3 := Sub.cell HG1.out.four.2.2.2
    have hne := Sub.one w1
    refine wp_region_sub (by kernel_rfl) (by kernel_rfl) ?_
    repeat (go_big_quiet_step (fail))
    go_big_quiet_step ((go_at_call 65; exact sub_call (HHC.out _)))
    repeat (go_big_quiet_step (fail))
    go_big_quiet_step ((go_at_call 36; exact sub_call (HFC.out _)))
    repeat (go_big_quiet_step (fail))
    refine wpQuiet_nil ?_
    rintro _ ⟨⟨w2, hb2⟩, rfl⟩
    have q2 := on_below hb1 hb2
    have G2 := hide (HG1.out.on hb2)
    clear hb1 hb2 HG1 t0 t1 t2 t3 hne
    obtain ⟨c0, c1, c2, c3⟩ := G2.out.four
    go_wp2
    go_ret
    exact ⟨rfl, q2⟩
  have hM3 : M ≤ 48 := by omega
  have hHt : h.toNat = H := by rw [HHE.out]; rfl
  have hshr : (281474976710656 : Int) / 2 ^ h.toNat = ((281474976710656 / P : Nat) : Int) := by
    have := pow_int 281474976710656 H
    rw [HPP.out] at this
    rw [hHt]
    exact this
  have hQb : 281474976710656 / P ≤ 281474976710656 := Nat.div_le_self _ _
  obtain ⟨QP, HQP⟩ : ∃ q, Hid (281474976710656 / P = q) := ⟨_, hide rfl⟩
  rw [HQP.out] at hshr hQb
  by_cases hix : i > (QP : Int)
  · refine ⟨false, ⟨(fun e => by cases e), fun e => by
      have h3 := HIF.out.1 e
      have h4 : I * P ≤ 281474976710656 := by
        have := Nat.div_le_self 281474976710656 (2 ^ M)
        omega
      have h5 := (Nat.le_div_iff_mul_le hP0).2 h4
      rw [HQP.out] at h5
      have := HIE.out
      omega⟩, fun w => ?_⟩
    have hix2 : (QP : Int) < i := hix
    clear hHt
    go_enter Tryz.func48, Tryz.ntmps48
    go_wp2_with (first | (refine step_box (cs := c4 h l i n) rfl rfl ?_; intro w1 g1 hg1 hle1 hb1; have HG1 := hide hg1; clear hg1))
    have t0 := Sub.cell HG1.out.four.1
    have t1 := Sub.cell HG1.out.four.2.1
    have t2 := Sub.cell HG1.out.four.2.2.1
    have t3 := Sub.cell HG1.out.four.2.2.2
    have hne := Sub.one w1
    refine wp_region_sub (by kernel_rfl) (by kernel_rfl) ?_
    repeat (go_big_quiet_step (fail))
    go_big_quiet_step ((go_at_call 65; exact sub_call (HHC.out _)))
    repeat (go_big_quiet_step (fail))
    go_big_quiet_step ((go_at_call 36; exact sub_call (HFC.out _)))
    repeat (go_big_quiet_step (fail))
    refine wpQuiet_nil ?_
    rintro _ ⟨⟨w2, hb2⟩, rfl⟩
    have q2 := on_below hb1 hb2
    have G2 := hide (HG1.out.on hb2)
    clear hb1 hb2 HG1 t0 t1 t2 t3 hne
    obtain ⟨c0, c1, c2, c3⟩ := G2.out.four
    go_wp2
    go_ret
    exact ⟨rfl, q2⟩
  · have hX : i * 2 ^ h.toNat = ((I * P : Nat) : Int) := by rw [hHt, HIE.out, ← HPP.out, Int.natCast_mul, Int.natCast_pow]; rfl
    have hXb : I * P ≤ 281474976710656 := by
      have h5 : I ≤ 281474976710656 / P := by rw [HQP.out]; have := HIE.out; omega
      exact (Nat.le_div_iff_mul_le hP0).1 h5
    obtain ⟨X, HX⟩ : ∃ x, Hid (I * P = x) := ⟨_, hide rfl⟩
    rw [HX.out] at hX hXb HIF
    obtain ⟨J1, HJ1⟩ : ∃ x, Hid (X + N = x) := ⟨_, hide rfl⟩
    obtain ⟨J, HJ⟩ : ∃ x, Hid (X + N - 1 = x) := ⟨_, hide rfl⟩
    have k1 : (X : Int) + n = (J1 : Int) := by rw [← HJ1.out, HNE.out]; omega
    have k2 : (J1 : Int) - 1 = (J : Int) := by rw [← HJ1.out, ← HJ.out]; omega
    have k3 : J1 ≤ 281474976710912 := by rw [← HJ1.out]; omega
    have hix2 : ¬ (QP : Int) < i := hix
    have hib : i ≤ 281474976710656 := by omega
    have hD : (281474976710656 : Int) / 2 ^ M = ((281474976710656 / 2 ^ M : Nat) : Int) := pow_int 281474976710656 M
    clear hHt
    by_cases hv : X + N ≤ 281474976710656 / 2 ^ M
    · refine ⟨true, ⟨fun _ => HIF.out.2 hv, fun _ => rfl⟩, fun w => ?_⟩
      have HVC := hide (fun v => validR_yes M J v (by omega) (by rw [hD, ← HJ.out]; omega))
      clear hD hv
      go_enter Tryz.func48, Tryz.ntmps48
      go_wp2_with (first | (refine step_box (cs := c4 h l i n) rfl rfl ?_; intro w1 g1 hg1 hle1 hb1; have HG1 := hide hg1; clear hg1))
      have t0 := Sub.cell HG1.out.four.1
      have t1 := Sub.cell HG1.out.four.2.1
      have t2 := Sub.cell HG1.out.four.2.2.1
      have t3 := Sub.cell HG1.out.four.2.2.2
      have hne := Sub.one w1
      refine wp_region_sub (by kernel_rfl) (by kernel_rfl) ?_
      repeat (go_big_quiet_step (fail))
      go_big_quiet_step ((go_at_call 65; exact sub_call (HHC.out _)))
      repeat (go_big_quiet_step (fail))
      go_big_quiet_step ((go_at_call 36; exact sub_call (HFC.out _)))
      repeat (go_big_quiet_step (fail))
      refine wpQuiet_nil ?_
      rintro _ ⟨⟨w2, hb2⟩, rfl⟩
      have q2 := on_below hb1 hb2
      have G2 := hide (HG1.out.on hb2)
      clear hb1 hb2 HG1 t0 t1 t2 t3 hne
      obtain ⟨c0, c1, c2, c3⟩ := G2.out.four
      go_wp2_with (go_at_call 34; refine (HVC.out _).mono ?_; rintro r w3 ⟨rfl, hb3⟩; have q3 := on_below q2 hb3)
      go_ret
      exact ⟨rfl, q3⟩
    · refine ⟨false, ⟨(fun e => by cases e), fun e => absurd (HIF.out.1 e) hv⟩, fun w => ?_⟩
      have HVC := hide (fun v => validR_no (M : Int) (J : Int) v (fun hV => by
        obtain ⟨_, _, _, h4⟩ := hV
        rw [Int.toNat_natCast, hD, ← HJ.out] at h4
        omega))
      clear hD hv
      go_enter Tryz.func48, Tryz.ntmps48
      go_wp2_with (first | (refine step_box (cs := c4 h l i n) rfl rfl ?_; intro w1 g1 hg1 hle1 hb1; have HG1 := hide hg1; clear hg1))
      have t0 := Sub.cell HG1.out.four.1
      have t1 := Sub.cell HG1.out.four.2.1
      have t2 := Sub.cell HG1.out.four.2.2.1
      have t3 := Sub.cell HG1.out.four.2.2.2
      have hne := Sub.one w1
      refine wp_region_sub (by kernel_rfl) (by kernel_rfl) ?_
      repeat (go_big_quiet_step (fail))
      go_big_quiet_step ((go_at_call 65; exact sub_call (HHC.out _)))
      repeat (go_big_quiet_step (fail))
      go_big_quiet_step ((go_at_call 36; exact sub_call (HFC.out _)))
      repeat (go_big_quiet_step (fail))
      refine wpQuiet_nil ?_
      rintro _ ⟨⟨w2, hb2⟩, rfl⟩
      have q2 := on_below hb1 hb2
      have G2 := hide (HG1.out.on hb2)
      clear hb1 hb2 HG1 t0 t1 t2 t3 hne
      obtain ⟨c0, c1, c2, c3⟩ := G2.out.four
      go_wp2_with (go_at_call 34; refine (HVC.out _).mono ?_; rintro r w3 ⟨rfl, hb3⟩; have q3 := on_below q2 hb3)
      go_ret
      exact ⟨rfl, q3⟩

end Go.Proofs.YtlgcjdgcgnlcaaaGreatDoor

/-
  A tile's path as the document tells it.
-/
namespace Go.Proofs.YtlgcjdgcgnlcaaaGreatDoor
open Go.RowKit
set_option linter.unusedVariables false
set_option linter.unusedSimpArgs false

theorem digR (n : Nat) (w : World) (h : n < 9223372036854775808) : Calls Tryz.prog 91 #[.int .i64 (n : Int)] w fun r w' => r = .returned (.string (bA (Lib.decDigits n))) ∧ Below w.heap.size w w' :=
  (digits_any n n w (Nat.le_refl _) h).mono fun r w' ⟨e, hw⟩ => ⟨e, by rw [hw]; exact Below.refl _ _⟩
set_option maxRecDepth 100000 in
theorem pathR_no (h l i n : Int) (w : World) (k : ¬ tOK h l i n) : Calls Tryz.prog 69 #[.agg #[.int .i64 h, .int .i64 l, .int .i64 i, .int .i64 n]] w fun r w' => r = .returned (.tuple #[.string (bA []), .int .i64 2]) ∧ Below w.heap.size w w' := by
  obtain ⟨q, hq, hc⟩ := validTR_any h l i n
  obtain rfl : q = false := by
    cases q with
    | false => rfl
    | true => exact absurd (hq.1 rfl) k
  have HVd := hide hc
  clear hc hq k
  go_enter Tryz.func69, Tryz.ntmps69
  go_wp2_with (first | (refine step_box (cs := c4 h l i n) rfl rfl ?_; intro w1 g1 hg1 hle1 hb1; have HG1 := hide hg1; have HB1 := hide hb1; clear hg1 hb1 hle1) | (refine step_loadA wT rfl rfl HG1.out rfl ?_))
  refine (HVd.out _).mono ?_
  rintro r w2 ⟨rfl, hb2⟩
  have HG2 := hide (HG1.out.on hb2)
  have HB2 := hide (on_below HB1.out hb2)
  clear HG1 HB1 hb2 HVd
  go_wp2
  go_ret2
  exact ⟨rfl, HB2.out⟩
set_option maxRecDepth 100000 in
set_option maxHeartbeats 1000000 in
theorem pathR_ok (h l i n : Nat) (w : World) (hh : isH h) (hl : l ≤ 48) (hi : i < 281474976710656) (hn1 : 1 ≤ n) (hn : n ≤ 2 ^ h) (k : tOK (h : Int) (l : Int) (i : Int) (n : Int)) :
    Calls Tryz.prog 69 #[.agg #[.int .i64 (h : Int), .int .i64 (l : Int), .int .i64 (i : Int), .int .i64 (n : Int)]] w fun r w' => r = .returned (.tuple #[.string (bA (pU h l i n)), .int .i64 0]) ∧ Below w.heap.size w w' := by
  obtain ⟨q, hq, hc⟩ := validTR_any (h : Int) (l : Int) (i : Int) (n : Int)
  obtain rfl : q = true := hq.2 k
  have HVd := hide hc
  have hp := hh.pow
  have h8 := hh.2
  have LH := hide (dec_len h (by omega))
  have LL := hide (dec_len l (by omega))
  have LN := hide (dec_len n (by omega))
  have LI := hide (ixP_len i)
  have HIh := hide (fun v => digR h v (by omega))
  have HIl := hide (fun v => digR l v (by omega))
  have HIn := hide (fun v => digR n v (by omega))
  have HIx := hide (fun v => indexR_any i v (by omega))
  have HPU : Hid (pU h l i n = if n < 2 ^ h then ((((tileB ++ Lib.decDigits h) ++ [47]) ++ Lib.decDigits l) ++ [47]) ++ ixP i ++ markB ++ Lib.decDigits n else ((((tileB ++ Lib.decDigits h) ++ [47]) ++ Lib.decDigits l) ++ [47]) ++ ixP i) := hide (by
    unfold pU nmU
    split <;> simp only [List.append_assoc])
  obtain ⟨P, hP⟩ : ∃ P, 2 ^ h = P := ⟨_, rfl⟩
  obtain ⟨p1, p2, p3, p4⟩ := pow_w hP hh
  have HPW := hide p1
  have HPI := hide p2
  rw [hP] at HPU hn hp
  generalize pU h l i n = PU at *
  generalize Lib.decDigits h = dh at *
  generalize Lib.decDigits l = dl at *
  generalize Lib.decDigits n = dn at *
  generalize ixP i = di at *
  have HFU := hide (fun v => full_any h P v hh hP)
  clear hc hq k p1 p2 hP hh
  go_enter Tryz.func69, Tryz.ntmps69
  go_wp2_with (first | (refine step_box (cs := c4 (h : Int) (l : Int) (i : Int) (n : Int)) rfl rfl ?_; intro w1 g1 hg1 hle1 hb1; have HG1 := hide hg1; have HB1 := hide hb1; clear hg1 hb1 hle1) | (refine step_loadA wT rfl rfl HG1.out rfl ?_))
  refine (HVd.out _).mono ?_
  rintro r w2 ⟨rfl, hb2⟩
  have HG2 := hide (HG1.out.on hb2)
  have HB2 := hide (on_below HB1.out hb2)
  clear HG1 HB1 hb2 HVd
  have Y0 := hide ((Below.refl w2.heap.size w2).drew)
  have A0 : Hid (∀ v : World, Below w2.heap.size w2 v → v.cell? ⟨g1, 0, none⟩ = some (.int .i64 (h : Int))) := hide (fun v hv => (HG2.out.on hv).four.1)
  have A1 : Hid (∀ v : World, Below w2.heap.size w2 v → v.cell? ⟨g1, 1, none⟩ = some (.int .i64 (l : Int))) := hide (fun v hv => (HG2.out.on hv).four.2.1)
  have A2 : Hid (∀ v : World, Below w2.heap.size w2 v → v.cell? ⟨g1, 2, none⟩ = some (.int .i64 (i : Int))) := hide (fun v hv => (HG2.out.on hv).four.2.2.1)
  obtain ⟨s1, hs1⟩ : ∃ s, tileB ++ dh = s := ⟨_, rfl⟩
  obtain ⟨s2, hs2⟩ : ∃ s, s1 ++ [47] = s := ⟨_, rfl⟩
  obtain ⟨s3, hs3⟩ : ∃ s, s2 ++ dl = s := ⟨_, rfl⟩
  obtain ⟨s4, hs4⟩ : ∃ s, s3 ++ [47] = s := ⟨_, rfl⟩
  obtain ⟨s5, hs5⟩ : ∃ s, s4 ++ di = s := ⟨_, rfl⟩
  obtain ⟨s6, hs6⟩ : ∃ s, s5 ++ markB = s := ⟨_, rfl⟩
  obtain ⟨s7, hs7⟩ : ∃ s, s6 ++ dn = s := ⟨_, rfl⟩
  have y1 : s1.length ≤ 25 := by rw [← hs1, List.length_append]; have := LH.out; simp [tileB]; omega
  have y2 : s2.length ≤ 26 := by rw [← hs2, List.length_append]; simp; omega
  have y3 : s3.length ≤ 46 := by rw [← hs3, List.length_append]; have := LL.out; omega
  have y4 : s4.length ≤ 47 := by rw [← hs4, List.length_append]; simp; omega
  have y5 : s5.length ≤ 75 := by rw [← hs5, List.length_append]; have := LI.out; omega
  have y6 : s6.length ≤ 78 := by rw [← hs6, List.length_append]; simp [markB]; omega
  have Z1 : Hid (tileB ++ dh = s1 ∧ tileB.length + dh.length ≤ 9000) := hide ⟨hs1, by have := LH.out; simp [tileB]; omega⟩
  have Z2 : Hid (s1 ++ [47] = s2 ∧ s1.length + ([47] : List UInt8).length ≤ 9000) := hide ⟨hs2, by simp; omega⟩
  have Z3 : Hid (s2 ++ dl = s3 ∧ s2.length + dl.length ≤ 9000) := hide ⟨hs3, by have := LL.out; omega⟩
  have Z4 : Hid (s3 ++ [47] = s4 ∧ s3.length + ([47] : List UInt8).length ≤ 9000) := hide ⟨hs4, by simp; omega⟩
  have Z5 : Hid (s4 ++ di = s5 ∧ s4.length + di.length ≤ 9000) := hide ⟨hs5, by have := LI.out; omega⟩
  have Z6 : Hid (s5 ++ markB = s6 ∧ s5.length + markB.length ≤ 9000) := hide ⟨hs6, by simp [markB]; omega⟩
  have Z7 : Hid (s6 ++ dn = s7 ∧ s6.length + dn.length ≤ 9000) := hide ⟨hs7, by have := LN.out; omega⟩
  rw [hs1, hs2, hs3, hs4, hs5, hs6, hs7] at HPU
  clear hs1 hs2 hs3 hs4 hs5 hs6 hs7 y1 y2 y3 y4 y5 y6
  go_wp2_with fail
  refine joinP (fun W => Hid (Below w2.heap.size w2 W)) ?act ?tail (fun hjoin => ?_)
  rotate_left
  rotate_left
  · refine wp_region_noPanic ?_
    refine wp_region_held_drew (S := fun v : World => Below w2.heap.size w2 v) (by kernel_rfl) Y0.out (fun hHeld => ?_)
    refine takeH 0 8 (.pointer (some ⟨g1, 0, none⟩)) hHeld rfl rfl (by kernel_rfl) (by kernel_rfl) (by kernel_rfl) (fun _ _ _ h => h) (Or.inl ⟨by rfl, fun w _ => by go_simp⟩) ?_
    simp only [Act.put, List.setIfInBounds_toArray, List.set_cons_zero, List.set_cons_succ]
    refine takeH 1 9 (.int .i64 (h : Int)) hHeld rfl rfl (by kernel_rfl) (by kernel_rfl) (by kernel_rfl) (fun _ _ _ h => h) (Or.inl ⟨by rfl, fun w hw => by have hw' : w.cell? ⟨g1, 0, none⟩ = some (.int .i64 (h : Int)) := A0.out _ hw; go_simp⟩) ?_
    simp only [Act.put, List.setIfInBounds_toArray, List.set_cons_zero, List.set_cons_succ]
    refine takeH 5 13 (.pointer (some ⟨g1, 1, none⟩)) hHeld rfl rfl (by kernel_rfl) (by kernel_rfl) (by kernel_rfl) (fun _ _ _ h => h) (Or.inl ⟨by rfl, fun w _ => by go_simp⟩) ?_
    simp only [Act.put, List.setIfInBounds_toArray, List.set_cons_zero, List.set_cons_succ]
    refine takeH 6 14 (.int .i64 (l : Int)) hHeld rfl rfl (by kernel_rfl) (by kernel_rfl) (by kernel_rfl) (fun _ _ _ h => h) (Or.inl ⟨by rfl, fun w hw => by have hw' : w.cell? ⟨g1, 1, none⟩ = some (.int .i64 (l : Int)) := A1.out _ hw; go_simp⟩) ?_
    simp only [Act.put, List.setIfInBounds_toArray, List.set_cons_zero, List.set_cons_succ]
    refine takeH 10 18 (.pointer (some ⟨g1, 2, none⟩)) hHeld rfl rfl (by kernel_rfl) (by kernel_rfl) (by kernel_rfl) (fun _ _ _ h => h) (Or.inl ⟨by rfl, fun w _ => by go_simp⟩) ?_
    simp only [Act.put, List.setIfInBounds_toArray, List.set_cons_zero, List.set_cons_succ]
    refine takeH 11 19 (.int .i64 (i : Int)) hHeld rfl rfl (by kernel_rfl) (by kernel_rfl) (by kernel_rfl) (fun _ _ _ h => h) (Or.inl ⟨by rfl, fun w hw => by have hw' : w.cell? ⟨g1, 2, none⟩ = some (.int .i64 (i : Int)) := A2.out _ hw; go_simp⟩) ?_
    simp only [Act.put, List.setIfInBounds_toArray, List.set_cons_zero, List.set_cons_succ]
    refine wpAnyH_ready (rs := [2]) (by kernel_rfl) (by simp) (AllReadyH.cons rfl (fun K hK => ?_) AllReadyH.nil)
    rw [if_pos (by rfl)]
    go_simp
    refine (HIh.out _).mono ?_
    rintro r va ⟨rfl, hva⟩
    have Y1 := hide (on_below Y0.out hva)
    refine hK.out _ _ Y1.out (fun hHeld => ?_)
    clear hK K
    try simp only [Act.put, List.setIfInBounds_toArray, List.set_cons_zero, List.set_cons_succ]
    refine takeH 3 11 (.string (bA s1)) hHeld rfl rfl (by kernel_rfl) (by kernel_rfl) (by kernel_rfl) (fun _ _ _ h => h) (Or.inl ⟨by rfl, fun w _ => runS (p := tileB) (q := dh) rfl rfl Z1.out⟩) ?_
    simp only [Act.put, List.setIfInBounds_toArray, List.set_cons_zero, List.set_cons_succ]
    refine takeH 4 12 (.string (bA s2)) hHeld rfl rfl (by kernel_rfl) (by kernel_rfl) (by kernel_rfl) (fun _ _ _ h => h) (Or.inl ⟨by rfl, fun w _ => runS (p := s1) (q := [47]) rfl rfl Z2.out⟩) ?_
    simp only [Act.put, List.setIfInBounds_toArray, List.set_cons_zero, List.set_cons_succ]
    refine wpAnyH_ready (rs := [7]) (by kernel_rfl) (by simp) (AllReadyH.cons rfl (fun K hK => ?_) AllReadyH.nil)
    rw [if_pos (by rfl)]
    go_simp
    refine (HIl.out _).mono ?_
    rintro r vb ⟨rfl, hvb⟩
    have Y2 := hide (on_below Y1.out hvb)
    refine hK.out _ _ Y2.out (fun hHeld => ?_)
    clear hK K
    try simp only [Act.put, List.setIfInBounds_toArray, List.set_cons_zero, List.set_cons_succ]
    refine takeH 8 16 (.string (bA s3)) hHeld rfl rfl (by kernel_rfl) (by kernel_rfl) (by kernel_rfl) (fun _ _ _ h => h) (Or.inl ⟨by rfl, fun w _ => runS (p := s2) (q := dl) rfl rfl Z3.out⟩) ?_
    simp only [Act.put, List.setIfInBounds_toArray, List.set_cons_zero, List.set_cons_succ]
    refine takeH 9 17 (.string (bA s4)) hHeld rfl rfl (by kernel_rfl) (by kernel_rfl) (by kernel_rfl) (fun _ _ _ h => h) (Or.inl ⟨by rfl, fun w _ => runS (p := s3) (q := [47]) rfl rfl Z4.out⟩) ?_
    simp only [Act.put, List.setIfInBounds_toArray, List.set_cons_zero, List.set_cons_succ]
    refine wpAnyH_ready (rs := [12]) (by kernel_rfl) (by simp) (AllReadyH.cons rfl (fun K hK => ?_) AllReadyH.nil)
    rw [if_pos (by rfl)]
    go_simp
    refine (HIx.out _).mono ?_
    rintro r vc ⟨rfl, hvc⟩
    have Y3 := hide (on_below Y2.out hvc)
    refine hK.out _ _ Y3.out (fun hHeld => ?_)
    clear hK K
    try simp only [Act.put, List.setIfInBounds_toArray, List.set_cons_zero, List.set_cons_succ]
    refine takeH 13 21 (.string (bA s5)) hHeld rfl rfl (by kernel_rfl) (by kernel_rfl) (by kernel_rfl) (fun _ _ _ h => h) (Or.inl ⟨by rfl, fun w _ => runS (p := s4) (q := di) rfl rfl Z5.out⟩) ?_
    simp only [Act.put, List.setIfInBounds_toArray, List.set_cons_zero, List.set_cons_succ]
    refine takeH 14 4 (.string (bA s5)) hHeld rfl rfl (by kernel_rfl) (by kernel_rfl) (by kernel_rfl) (fun _ _ _ h => h) (Or.inl ⟨by rfl, fun w _ => by go_simp⟩) ?_
    simp only [Act.put, List.setIfInBounds_toArray, List.set_cons_zero, List.set_cons_succ]
    refine wpAnyH_done (by kernel_rfl) ?_ _
    refine NoPanic.normal ?_
    exact hjoin vc Y3
  · rintro W Y3
    have GW := hide (HG2.out.on Y3.out)
    have BW := hide (on_below HB2.out Y3.out)
    obtain ⟨c0, c1, c2, c3⟩ := GW.out.four
    clear A0 A1 A2 Y0 Y3 HG2 HB2 HIh HIl HIx Z1 Z2 Z3 Z4 Z5
    have e2 := HPI.out
    have e1 := HPW.out
    by_cases hlt : n < P
    · have hlt' : (n : Int) < (P : Int) := by omega
      have E : PU = s7 := by rw [HPU.out, if_pos hlt]
      subst E
      go_wp2_with fail
      go_quiet (first | (go_at_call 36; exact Calls.quiet_of_same (HFU.out _)))
      clear e1 e2
      go_wp2_with (refine step_addR (p := s5) (q := markB) rfl rfl rfl Z6.out ?_)
      refine (HIn.out _).mono ?_
      rintro r wn ⟨rfl, hbn⟩
      have BN := hide (on_below (below_drews BW.out nq) hbn)
      clear hbn
      go_wp2_with (refine step_addR (p := s6) (q := dn) rfl rfl rfl Z7.out ?_)
      go_ret2
      exact ⟨rfl, BN.out⟩
    · have hlt' : ¬ (n : Int) < (P : Int) := by omega
      have E : PU = s5 := by rw [HPU.out, if_neg hlt]
      subst E
      go_wp2_with fail
      go_quiet (first | (go_at_call 36; exact Calls.quiet_of_same (HFU.out _)))
      clear e1 e2
      go_wp2
      go_ret2
      exact ⟨rfl, below_drews BW.out _⟩
/-- What the document's Path tells of any tile. -/
theorem pathR_any (h l i n : Int) : ∃ (p : List UInt8) (e : Int), ((e = 0 ∧ tOK h l i n ∧ p = pathI h l i n) ∨ (e = 2 ∧ ¬ tOK h l i n ∧ p = [])) ∧
    ∀ w : World, Calls Tryz.prog 69 #[.agg (c4 h l i n).toArray] w fun r w' => r = .returned (.tuple #[.string (bA p), .int .i64 e]) ∧ Below w.heap.size w w' := by
  by_cases k : tOK h l i n
  · obtain ⟨H, L, I, N, rfl, rfl, rfl, rfl, hH, h1, h2, h3, h4⟩ := k.nats
    refine ⟨_, 0, .inl ⟨rfl, k, rfl⟩, fun w => ?_⟩
    have := pathR_ok H L I N w hH h1 h2 h3 h4 k
    unfold pathI
    simp only [Int.toNat_natCast]
    exact this
  · exact ⟨_, 2, .inr ⟨rfl, k, rfl⟩, fun w => pathR_no h l i n w k⟩
end Go.Proofs.YtlgcjdgcgnlcaaaGreatDoor

/-
  The names of tiles' files: the document's Name.
-/
namespace Go.Proofs.YtlgcjdgcgnlcaaaGreatDoor
open Go.RowKit
set_option linter.unusedVariables false
set_option linter.unusedSimpArgs false

set_option maxHeartbeats 1000000 in
theorem snameR_any (h l i : Int) (w : World) :
    Calls Tryz.prog 35 #[.int .i64 h, .int .i64 l, .int .i64 i] w fun r w' => r = .returned (.tuple #[.string (bA (smP h l i)), .int .i64 (smE h l i)]) ∧ Below w.heap.size w w' := by
  by_cases hb : h < 1 ∨ 8 < h
  · have e1 : smP h l i = [] := by unfold smP; rw [smB_h hb]; rfl
    have e2 : smE h l i = 2 := by unfold smE; rw [smB_h hb]; rfl
    have HC := hide (heightR_no h w hb)
    rw [e1, e2]
    clear e1 e2 hb
    go_enter Tryz.func35, Tryz.ntmps35
    go_wp2_with (go_at_call 65; refine HC.out.mono ?_; rintro r w' ⟨rfl, rfl⟩)
    go_ret2
    exact ⟨rfl, Below.refl _ _⟩
  · obtain ⟨H, hH⟩ : ∃ H : Nat, h = (H : Int) := ⟨h.toNat, by omega⟩
    have hh : isH H := ⟨by omega, by omega⟩
    have hc : ∀ W : World, Calls Tryz.prog 65 #[.int .i64 h] W fun r w' => r = .returned (.bool true) ∧ w' = W := fun W => by
      rw [hH]
      exact heightR_yes H W hh
    have hf : ∀ W : World, Calls Tryz.prog 36 #[.int .i64 h] W fun r w' => r = .returned (.int .i64 ((2 ^ H : Nat) : Int)) ∧ w' = W := fun W => by
      rw [hH]
      exact full_any H (2 ^ H) W hh rfl
    obtain ⟨p, e, hpe, hp⟩ := pathR_any h l i ((2 ^ H : Nat) : Int)
    have e1 : p = smP h l i ∧ e = smE h l i ∧ (e ≠ 0 → p = [] ∧ e = 2) := by
      rcases hpe with ⟨rfl, k, rfl⟩ | ⟨rfl, k, rfl⟩
      · have kb := (smB_tOK hH).2 k
        unfold smP smE
        rw [if_pos kb, if_pos kb]
        obtain ⟨H', L, I, e1, rfl, rfl, k2⟩ := smB_nats kb
        obtain rfl : H = H' := by omega
        refine ⟨?_, rfl, fun h => absurd rfl h⟩
        rw [hH]
        simp only [Int.toNat_natCast]
        rw [sP_ok k2]
      · have kb : ¬ smB h l i = true := fun kb => k ((smB_tOK hH).1 kb)
        unfold smP smE
        rw [if_neg kb, if_neg kb]
        exact ⟨rfl, rfl, fun _ => ⟨rfl, rfl⟩⟩
    obtain ⟨rfl, rfl, hz⟩ := e1
    have HC := hide hc
    have HF := hide hf
    have HP := hide hp
    have HZ := hide hz
    clear hc hf hp hpe hb hH hz
    generalize smP h l i = p at *
    generalize smE h l i = e at *
    generalize ((2 ^ H : Nat) : Int) = q at *
    go_enter Tryz.func35, Tryz.ntmps35
    go_wp2_with (first | (go_at_call 65; refine (HC.out _).mono ?_; rintro r w' ⟨rfl, rfl⟩) | (go_at_call 36; refine (HF.out _).mono ?_; rintro r w' ⟨rfl, rfl⟩) | (refine step_buildT4 rfl rfl rfl rfl rfl ?_))
    refine (HP.out _).mono ?_
    rintro r w2 ⟨rfl, hb2⟩
    by_cases he : e = 0
    · subst he
      go_wp2
      go_ret2
      exact ⟨rfl, hb2⟩
    · obtain ⟨rfl, rfl⟩ := HZ.out he
      go_wp2
      go_ret2
      exact ⟨rfl, hb2⟩

end Go.Proofs.YtlgcjdgcgnlcaaaGreatDoor

/-
  The document's Level: may a level be?
-/
namespace Go.Proofs.YtlgcjdgcgnlcaaaGreatDoor
open Go.RowKit
set_option linter.unusedVariables false
set_option linter.unusedSimpArgs false

set_option maxRecDepth 100000 in
set_option maxHeartbeats 1000000 in
theorem levelR_any (h l : Int) (w : World) :
    Calls Tryz.prog 30 #[.int .i64 h, .int .i64 l] w fun r w' => r = .returned (.bool (smB h l 0)) ∧ Below w.heap.size w w' := by
  by_cases hb : h < 1 ∨ 8 < h
  · have e1 : smB h l 0 = false := smB_h hb
    have HC := hide (heightR_no h w hb)
    rw [e1]
    clear e1 hb
    go_enter Tryz.func30, Tryz.ntmps30
    go_wp2_with fail
    refine HC.out.mono ?_
    rintro r v ⟨rfl, rfl⟩
    go_wp2
    go_ret
    exact ⟨rfl, Below.refl _ _⟩
  · obtain ⟨H, hH⟩ : ∃ H : Nat, h = (H : Int) := ⟨h.toNat, by omega⟩
    have hh : isH H := ⟨by omega, by omega⟩
    have HC : Hid (∀ W : World, Calls Tryz.prog 65 #[.int .i64 h] W fun r w' => r = .returned (.bool true) ∧ w' = W) := hide (fun W => by
      rw [hH]
      exact heightR_yes H W hh)
    have HF : Hid (∀ W : World, Calls Tryz.prog 36 #[.int .i64 h] W fun r w' => r = .returned (.int .i64 ((2 ^ H : Nat) : Int)) ∧ w' = W) := hide (fun W => by
      rw [hH]
      exact full_any H (2 ^ H) W hh rfl)
    obtain ⟨q, hq, hv⟩ := validTR_any h l 0 ((2 ^ H : Nat) : Int)
    have e1 : smB h l 0 = q := by
      have := smB_tOK (l := l) (i := 0) hH
      cases q <;> cases hs : smB h l 0 <;> simp_all
    rw [e1]
    have HV := hide hv
    clear hv hq e1 hb hH
    generalize ((2 ^ H : Nat) : Int) = P at *
    go_enter Tryz.func30, Tryz.ntmps30
    go_wp2_with fail
    refine (HC.out _).mono ?_
    rintro r w ⟨rfl, rfl⟩
    go_wp2_with fail
    refine (HF.out _).mono ?_
    rintro r w ⟨rfl, rfl⟩
    go_wp2_with fail
    refine (HV.out _).mono ?_
    rintro r w2 ⟨rfl, hb2⟩
    go_wp2
    go_ret
    exact ⟨rfl, hb2⟩

end Go.Proofs.YtlgcjdgcgnlcaaaGreatDoor

/-
  The document's files: by rising names, one behind the other, without any program.
-/
namespace Go.Proofs.YtlgcjdgcgnlcaaaGreatDoor
open Go.RowKit
set_option linter.unusedVariables false

theorem bl_irr : ∀ x : List UInt8, Op.bytesLess x x = false
  | [] => rfl
  | a :: x => by
    unfold Op.bytesLess
    have h := bl_irr x
    simp [h]
theorem bl_tot : ∀ x y : List UInt8, x ≠ y → Op.bytesLess x y = false → Op.bytesLess y x = true
  | [], [], h, _ => absurd rfl h
  | [], b :: y, _, h => by simp [Op.bytesLess] at h
  | a :: x, [], _, _ => by simp [Op.bytesLess]
  | a :: x, b :: y, h, h' => by
    unfold Op.bytesLess at h' ⊢
    simp only [Bool.or_eq_false_iff, decide_eq_false_iff_not, Bool.and_eq_false_iff, beq_eq_false_iff_ne] at h'
    simp only [Bool.or_eq_true, decide_eq_true_eq, Bool.and_eq_true, beq_iff_eq]
    by_cases hab : a = b
    · right
      refine ⟨hab.symm, bl_tot x y (fun e => h (by rw [hab, e])) ?_⟩
      rcases h'.2 with h2 | h2
      · exact absurd hab h2
      · exact h2
    · left
      exact UInt8.lt_of_le_of_ne (UInt8.not_lt.1 h'.1) (Ne.symm hab)
theorem bl_trans : ∀ x y z : List UInt8, Op.bytesLess x y = true → Op.bytesLess y z = true → Op.bytesLess x z = true
  | _, _, [], _, h => by simp [Op.bytesLess] at h
  | _, [], _ :: _, h, _ => by simp [Op.bytesLess] at h
  | [], _ :: _, _ :: _, _, _ => by simp [Op.bytesLess]
  | a :: x, b :: y, c :: z, h1, h2 => by
    unfold Op.bytesLess at h1 h2 ⊢
    simp only [Bool.or_eq_true, decide_eq_true_eq, Bool.and_eq_true, beq_iff_eq] at h1 h2 ⊢
    rcases h1 with h1 | ⟨h1, h1'⟩
    · rcases h2 with h2 | ⟨h2, h2'⟩
      · exact .inl (UInt8.lt_trans h1 h2)
      · exact .inl (h2 ▸ h1)
    · rcases h2 with h2 | ⟨h2, h2'⟩
      · exact .inl (h1 ▸ h2)
      · exact .inr ⟨h1.trans h2, bl_trans x y z h1' h2'⟩

def blt (a b : ByteArray) : Bool := Op.bytesLess a.toList b.toList
theorem blt_irr (a : ByteArray) : blt a a = false := bl_irr _
theorem blt_ne {a b : ByteArray} (h : blt a b = true) : a ≠ b := fun e => by rw [e, blt_irr] at h; cases h
theorem bytes_inj {a b : ByteArray} (h : a.toList = b.toList) : a = b := by
  rw [ByteArray.toList_eq, ByteArray.toList_eq] at h
  exact ByteArray.ext (Array.toList_inj.1 h)
theorem blt_tot {a b : ByteArray} (h : a ≠ b) (h' : blt a b = false) : blt b a = true := bl_tot _ _ (fun e => h (bytes_inj e)) h'
theorem blt_trans {a b c : ByteArray} (h : blt a b = true) (h' : blt b c = true) : blt a c = true := bl_trans _ _ _ h h'

def Srt (l : List (ByteArray × List Int)) : Prop := l.Pairwise fun a b => blt a.1 b.1 = true
/-- Files as a function, and as a list by rising names. -/
structure FL (f : ByteArray → Option (List Int)) (l : List (ByteArray × List Int)) : Prop where
  srt : Srt l
  mem : ∀ n xs, f n = some xs ↔ (n, xs) ∈ l
theorem FL.nil : FL (fun _ => none) [] := ⟨List.Pairwise.nil, fun n xs => by simp⟩
def posF (l : List (ByteArray × List Int)) (n : ByteArray) : Nat := (l.takeWhile fun x => blt x.1 n).length
theorem posF_lt : ∀ (l : List (ByteArray × List Int)) (n : ByteArray) (i : Nat) (x : ByteArray × List Int), l[i]? = some x → i ≤ posF l n → (blt x.1 n = true ↔ i < posF l n)
  | [], _, _, _, h, _ => by simp at h
  | y :: l, n, 0, x, h, _ => by
    simp at h
    subst h
    cases hb : blt y.1 n <;> simp [posF, hb]
  | y :: l, n, i + 1, x, h, hi => by
    simp at h
    cases hb : blt y.1 n with
    | false => simp [posF, hb] at hi
    | true =>
      have e : posF (y :: l) n = posF l n + 1 := by simp [posF, hb]
      rw [e] at hi ⊢
      rw [posF_lt l n i x h (by omega)]
      omega
theorem posF_le (l : List (ByteArray × List Int)) (n : ByteArray) : posF l n ≤ l.length := (List.takeWhile_sublist _).length_le
theorem takeWhile_all {p : (ByteArray × List Int) → Bool} : ∀ (l : List (ByteArray × List Int)), ∀ x ∈ l.takeWhile p, p x = true
  | [], x, h => by simp at h
  | y :: l, x, h => by
    rw [List.takeWhile_cons] at h
    split at h
    · rename_i hy
      rcases List.mem_cons.1 h with rfl | h
      · exact hy
      · exact takeWhile_all l x h
    · cases h
theorem dropWhile_hd {p : (ByteArray × List Int) → Bool} : ∀ (l : List (ByteArray × List Int)) {y : ByteArray × List Int} {t : List (ByteArray × List Int)}, l.dropWhile p = y :: t → p y = false
  | [], y, t, h => by simp at h
  | z :: l, y, t, h => by
    rw [List.dropWhile_cons] at h
    split at h
    · exact dropWhile_hd l h
    · rename_i hz
      injection h with h1 h2
      subst h1
      simpa using hz
/-- Where a name stands, or would stand. -/
theorem FL.split {f : ByteArray → Option (List Int)} {l : List (ByteArray × List Int)} (h : FL f l) (n : ByteArray) :
    ∃ A B, l = A ++ B ∧ A.length = posF l n ∧ (∀ a ∈ A, blt a.1 n = true) ∧ ((f n = none ∧ ∀ b ∈ B, blt n b.1 = true) ∨ ∃ xs B', f n = some xs ∧ B = (n, xs) :: B' ∧ ∀ b ∈ B', blt n b.1 = true) := by
  obtain ⟨A, hA⟩ : ∃ A, A = l.takeWhile fun x => blt x.1 n := ⟨_, rfl⟩
  obtain ⟨B, hB⟩ : ∃ B, B = l.dropWhile fun x => blt x.1 n := ⟨_, rfl⟩
  have hl : l = A ++ B := by rw [hA, hB, List.takeWhile_append_dropWhile]
  have hA2 : ∀ a ∈ A, blt a.1 n = true := by rw [hA]; exact takeWhile_all (p := fun x => blt x.1 n) l
  refine ⟨A, B, hl, by rw [hA]; rfl, hA2, ?_⟩
  have hs := h.srt
  rw [hl] at hs
  have hsB := (List.pairwise_append.1 hs).2.1
  have hout : ∀ xs, (n, xs) ∈ l → (n, xs) ∈ B := fun xs hx => by
    rw [hl] at hx
    rcases List.mem_append.1 hx with hx | hx
    · exact absurd rfl (blt_ne (hA2 _ hx))
    · exact hx
  cases hBc : B with
  | nil =>
    refine .inl ⟨?_, fun b hb => by cases hb⟩
    cases hf : f n with
    | none => rfl
    | some xs =>
      have := hout xs ((h.mem n xs).1 hf)
      rw [hBc] at this
      cases this
  | cons y t =>
    rw [hBc] at hsB hB
    have hy : blt y.1 n = false := dropWhile_hd (p := fun x => blt x.1 n) l hB.symm
    have hst := List.pairwise_cons.1 hsB
    by_cases hyn : y.1 = n
    · right
      have hye : y = (n, y.2) := by rw [← hyn]
      refine ⟨y.2, t, (h.mem n y.2).2 (by rw [hl, hBc, ← hye]; simp), by rw [← hye], fun b hb => by have := hst.1 b hb; rw [hyn] at this; exact this⟩
    · left
      have h1 : blt n y.1 = true := blt_tot hyn hy
      have h2 : ∀ b ∈ y :: t, blt n b.1 = true := fun b hb => by
        rcases List.mem_cons.1 hb with rfl | hb
        · exact h1
        · exact blt_trans h1 (hst.1 b hb)
      refine ⟨?_, h2⟩
      cases hf : f n with
      | none => rfl
      | some xs =>
        have := hout xs ((h.mem n xs).1 hf)
        rw [hBc] at this
        exact absurd rfl (blt_ne (h2 _ this))
section
variable {f : ByteArray → Option (List Int)} {A B : List (ByteArray × List Int)} {n : ByteArray}
/-- The file at a name's place: new, or turned. -/
theorem FL.put (h : FL f (A ++ B)) (hA : ∀ a ∈ A, blt a.1 n = true) (hB : ∀ b ∈ B, blt n b.1 = true) (xs : List Int) : FL (upd f n (some xs)) (A ++ (n, xs) :: B) := by
  obtain ⟨h1, h2, h3⟩ := List.pairwise_append.1 h.srt
  refine ⟨List.pairwise_append.2 ⟨h1, List.pairwise_cons.2 ⟨hB, h2⟩, fun a ha b hb => ?_⟩, fun m ys => ?_⟩
  · rcases List.mem_cons.1 hb with rfl | hb
    · exact hA a ha
    · exact h3 a ha b hb
  · have hm := h.mem m ys
    unfold upd
    by_cases e : m = n
    · subst e
      rw [if_pos rfl]
      constructor
      · intro e
        injection e with e
        subst e
        simp
      · intro hx
        rcases List.mem_append.1 hx with hx | hx
        · exact absurd rfl (blt_ne (hA _ hx))
        · rcases List.mem_cons.1 hx with hx | hx
          · injection hx with _ hx
            rw [hx]
          · exact absurd rfl (blt_ne (hB _ hx))
    · rw [if_neg e, hm]
      simp only [List.mem_append, List.mem_cons, Prod.mk.injEq, e, false_and, false_or]
theorem FL.turn {ys : List Int} (h : FL f (A ++ (n, ys) :: B)) (hA : ∀ a ∈ A, blt a.1 n = true) (hB : ∀ b ∈ B, blt n b.1 = true) : FL (upd f n none) (A ++ B) := by
  obtain ⟨h1, h2, h3⟩ := List.pairwise_append.1 h.srt
  refine ⟨List.pairwise_append.2 ⟨h1, (List.pairwise_cons.1 h2).2, fun a ha b hb => h3 a ha b (List.mem_cons_of_mem _ hb)⟩, fun m zs => ?_⟩
  have hm := h.mem m zs
  unfold upd
  by_cases e : m = n
  · subst e
    rw [if_pos rfl]
    refine ⟨fun h => (by cases h), fun hx => ?_⟩
    rcases List.mem_append.1 hx with hx | hx
    · exact absurd rfl (blt_ne (hA _ hx))
    · exact absurd rfl (blt_ne (hB _ hx))
  · rw [if_neg e, hm]
    simp only [List.mem_append, List.mem_cons, Prod.mk.injEq, e, false_and, false_or]
theorem FL.set {ys : List Int} (h : FL f (A ++ (n, ys) :: B)) (hA : ∀ a ∈ A, blt a.1 n = true) (hB : ∀ b ∈ B, blt n b.1 = true) (xs : List Int) : FL (upd f n (some xs)) (A ++ (n, xs) :: B) := by
  have := (h.turn hA hB).put hA hB xs
  rw [upd_upd] at this
  exact this
end
/-- Two lists by rising names with the same files are the same. -/
theorem srt_ext : ∀ (l l' : List (ByteArray × List Int)), Srt l → Srt l' → (∀ x, x ∈ l ↔ x ∈ l') → l = l'
  | [], [], _, _, _ => rfl
  | [], y :: t, _, _, h => by have := (h y).2 (by simp); cases this
  | x :: t, [], _, _, h => by have := (h x).1 (by simp); cases this
  | x :: t, y :: t', h1, h2, h => by
    have p1 := List.pairwise_cons.1 h1
    have p2 := List.pairwise_cons.1 h2
    have e : x = y := by
      rcases List.mem_cons.1 ((h x).1 (by simp)) with e | hx
      · exact e
      · rcases List.mem_cons.1 ((h y).2 (by simp)) with e | hy
        · exact e.symm
        · have a1 := p2.1 x hx
          have a2 := p1.1 y hy
          exact absurd rfl (blt_ne (blt_trans a1 a2))
    subst e
    rw [srt_ext t t' p1.2 p2.2 (fun z => ?_)]
    have hz := h z
    simp only [List.mem_cons] at hz
    constructor
    · intro hm
      rcases hz.1 (.inr hm) with e | h'
      · exact absurd e.symm (fun e => by have := p1.1 z hm; rw [e] at this; exact absurd rfl (blt_ne this))
      · exact h'
    · intro hm
      rcases hz.2 (.inr hm) with e | h'
      · exact absurd e.symm (fun e => by have := p2.1 z hm; rw [e] at this; exact absurd rfl (blt_ne this))
      · exact h'
theorem FL.ext {f f' : ByteArray → Option (List Int)} {l l' : List (ByteArray × List Int)} (h : FL f l) (h' : FL f' l') : l = l' ↔ f = f' := by
  constructor
  · rintro rfl
    funext n
    cases hf : f n with
    | none =>
      cases hf' : f' n with
      | none => rfl
      | some xs => have := (h.mem n xs).2 ((h'.mem n xs).1 hf'); rw [hf] at this; cases this
    | some xs => exact ((h'.mem n xs).2 ((h.mem n xs).1 hf)).symm
  · rintro rfl
    exact srt_ext _ _ h.srt h'.srt (fun x => by rw [show x = (x.1, x.2) from rfl, ← h.mem, ← h'.mem])
/-- What a rename makes, done as the document does it: first the old name goes. -/
theorem ren_upd (f : ByteArray → Option (List Int)) {n t : ByteArray} (h : n ≠ t) (xs : List Int) : upd (upd f n none) t (some xs) = upd (upd f t (some xs)) n none := by
  funext x
  unfold upd
  by_cases h1 : x = t
  · subst h1
    rw [if_pos rfl, if_neg (Ne.symm h), if_pos rfl]
  · by_cases h2 : x = n
    · subst h2
      rw [if_neg h1, if_pos rfl, if_pos rfl]
    · rw [if_neg h1, if_neg h2, if_neg h2, if_neg h1]

end Go.Proofs.YtlgcjdgcgnlcaaaGreatDoor

/-
  Slices of wide elements over any element type: parts of them, append of a part, elements.
-/
namespace Go.Proofs.YtlgcjdgcgnlcaaaGreatDoor
open Go.RowKit
set_option linter.unusedVariables false

/-- An element's type and its slices'. -/
structure Ro (T e : TypeId) (q by' : Nat) (z : Value) : Prop where
  und : Tryz.prog.underlying T = some (.slice e)
  el : Tryz.prog.elem T = e
  info : (Tryz.prog.info? e).map (fun i => (i.zero, i.size, i.bytes)) = some (some z, q, by')
  zs : z.cells.size = q
  q0 : 0 < q
  q9 : by' ≤ 128
  sz : ∀ w, (sizeOf e).run Tryz.prog w = .ok q w
theorem Ro.und2 {T e : TypeId} {q by' : Nat} {z : Value} (R : Ro T e q by' z) : Tryz.prog.underlying T = some (.slice (Tryz.prog.elem T)) := by rw [R.el]; exact R.und
/-- A slice's elements, seen. -/
structure Vw (w : World) (e : TypeId) (q : Nat) (v : Value) (n : Nat) (xs : List Value) : Prop where
  len : xs.length = n * q
  at' : ∃ a c, v = .slice a n c ∧ n ≤ c ∧ (n ≠ 0 → ∃ g o cs, a = some ⟨g, o, none⟩ ∧ Blk w g e cs ∧ (cs.drop o).take (n * q) = xs)
section
variable {T e : TypeId} {q by' : Nat} {z : Value} {w w' : World} {v : Value} {n : Nat} {xs : List Value}
theorem Vw.of_row {B : Nat} (h : w.ownsRow B e q v n xs) : Vw w e q v n xs := by
  obtain ⟨h1, h2⟩ := h
  refine ⟨h1, ?_⟩
  rcases h2 with ⟨rfl, rfl⟩ | ⟨g, cap, cur, rfl, hg, hh, h3, h4, h5, h6⟩
  · exact ⟨none, 0, rfl, Nat.le_refl _, fun h => absurd rfl h⟩
  · exact ⟨_, _, rfl, h3, fun _ => ⟨g, 0, cur.toList, rfl, by unfold Blk; simpa using hh, by simpa using h6⟩⟩
theorem Vw.on (h : Vw w e q v n xs) (hb : Below w.heap.size w w') : Vw w' e q v n xs := by
  obtain ⟨h1, a, c, h2, h3, h4⟩ := h
  exact ⟨h1, a, c, h2, h3, fun h0 => by obtain ⟨g, o, cs, e1, e2, e3⟩ := h4 h0; exact ⟨g, o, cs, e1, e2.on hb, e3⟩⟩
theorem Vw.same (h : Vw w e q v n xs) (hk : ∀ k, v.ownBlock = some k → w'.heap[k]? = w.heap[k]?) : Vw w' e q v n xs := by
  obtain ⟨h1, a, c, h2, h3, h4⟩ := h
  subst h2
  exact ⟨h1, a, c, rfl, h3, fun h0 => by obtain ⟨g, o, cs, e1, e2, e3⟩ := h4 h0; subst e1; exact ⟨g, o, cs, rfl, e2.same (hk g rfl), e3⟩⟩
theorem Vw.to (R : Ro T e q by' z) (h : Vw w e q v n xs) {k : Nat} (hk : k ≤ n) : ∃ v1, (∀ W : World, (Instr.slice T v none (some (.int .i64 (k : Int))) none).run Tryz.prog W = .ok v1 W) ∧ ∀ W : World, Vw W e q v n xs → Vw W e q v1 k (xs.take (k * q)) := by
  obtain ⟨h1, a, c, rfl, h3, h4⟩ := h
  refine ⟨sliced a 0 k c q, fun W => ?_, fun W hW => ?_⟩
  · rw [run_slice_h W _ _ _ _ R.und2 .i64 k (by omega) (by omega), R.el, R.sz]
    simp
  · obtain ⟨g1, a', c', e', g3, g4⟩ := hW
    injection e' with e1 e2 e3
    subst e1 e3
    refine ⟨by rw [List.length_take, g1, Nat.min_eq_left (Nat.mul_le_mul_right _ hk)], ?_⟩
    unfold sliced
    refine ⟨_, _, rfl, by omega, fun h0 => ?_⟩
    obtain ⟨g, o, cs, e1, e2, e3⟩ := g4 (by omega)
    refine ⟨g, o, cs, ?_, e2, ?_⟩
    · rw [e1]
      split
      · rfl
      · simp [Addr.add_lit]
    · rw [← e3, List.take_take, Nat.min_eq_left (Nat.mul_le_mul_right _ hk)]
theorem Vw.from (R : Ro T e q by' z) (h : Vw w e q v n xs) {k : Nat} (hk : k ≤ n) : ∃ v1, (∀ W : World, (Instr.slice T v (some (.int .i64 (k : Int))) none none).run Tryz.prog W = .ok v1 W) ∧ ∀ W : World, Vw W e q v n xs → Vw W e q v1 (n - k) (xs.drop (k * q)) := by
  obtain ⟨h1, a, c, rfl, h3, h4⟩ := h
  refine ⟨sliced a k n c q, fun W => ?_, fun W hW => ?_⟩
  · rw [run_slice_l W _ _ _ _ R.und2 .i64 k (by omega) (by omega), R.el, R.sz]
    simp
  · obtain ⟨g1, a', c', e', g3, g4⟩ := hW
    injection e' with e1 e2 e3
    subst e1 e3
    refine ⟨by rw [List.length_drop, g1, Nat.sub_mul], ?_⟩
    unfold sliced
    refine ⟨_, _, rfl, by omega, fun h0 => ?_⟩
    obtain ⟨g, o, cs, e1, e2, e3⟩ := g4 (by omega)
    refine ⟨g, o + k * q, cs, ?_, e2, ?_⟩
    · rw [e1, if_neg (by omega)]
      simp [Addr.add_lit]
    · rw [← e3, List.drop_take, List.drop_drop, Nat.sub_mul]
/-- An element's place. -/
theorem vw_at (R : Ro T e q by' z) (g n cap i : Nat) (hi : i < n) (W : World) : (Instr.indexAt T (.slice (some ⟨g, 0, none⟩) n cap) (.int .i64 (i : Int))).run Tryz.prog W = .ok (.pointer (some ⟨g, i * q, none⟩)) W := by
  rw [run_indexAt_slice W _ _ _ _ .i64 i R.und2, if_pos ⟨by omega, by omega⟩, R.el, R.sz]
  simp only [Result.andThen_ok, Int.toNat_natCast]
  rw [Addr.add_lit, Nat.zero_add]
theorem row_at {B : Nat} (h : w.ownsRow B e q v n xs) (h0 : 0 < n) : ∃ g cap cs, v = .slice (some ⟨g, 0, none⟩) n cap ∧ Blk w g e cs ∧ cs.take (n * q) = xs ∧ n * q ≤ cs.length := by
  obtain ⟨h1, h2⟩ := h
  rcases h2 with ⟨rfl, rfl⟩ | ⟨g, cap, cur, rfl, hg, hh, h3, h4, h5, h6⟩
  · omega
  · refine ⟨g, cap, cur.toList, rfl, by unfold Blk; simpa using hh, h6, ?_⟩
    rw [Array.length_toList, h5]
    exact Nat.mul_le_mul_right _ h3
/-- A row whose block is turned, its first cells known. -/
theorem row_set {B : Nat} {g cap : Nat} {cs cs' ys : List Value} (h : w.ownsRow B e q (.slice (some ⟨g, 0, none⟩) n cap) n xs) (hb : Blk w g e cs) (hb' : Blk w' g e cs') (hl : cs'.length = cs.length) (hy : cs'.take (n * q) = ys) (hyl : ys.length = n * q) : w'.ownsRow B e q (.slice (some ⟨g, 0, none⟩) n cap) n ys := by
  obtain ⟨h1, h2⟩ := h
  refine ⟨hyl, ?_⟩
  rcases h2 with ⟨h2, _⟩ | ⟨g', cap', cur, h2, hg, hh, h3, h4, h5, h6⟩
  · cases h2
  · injection h2 with e1 e2 e3
    injection e1 with e1
    injection e1 with e1
    subst e1 e3
    right
    refine ⟨g, cap, cs'.toArray, rfl, hg, hb', h3, h4, ?_, by simpa using hy⟩
    have hcur : cs = cur.toList := by
      unfold Blk at hb
      rw [hh] at hb
      injection hb with hb
      injection hb with hb
      rw [hb]
    rw [List.size_toArray, hl, hcur, Array.length_toList, h5]
variable {dst : Option Tmp} {ty : TypeId} {pos : String} {aft : Array Edge} {gd : Option (Nat × Bool)} {a : Act} {K : Act → World → Prop} {Q : Exit → Act → World → Prop}
theorem grown_below {B : Nat} {row : Option Nat} (h : w.grownBy w' row) (hr : ∀ g, row = some g → B ≤ g) (hB : B ≤ w.heap.size) : Below B w w' :=
  ((Chs.refl (fun k => B ≤ k) w).thenGrown h (fun g hg => .inl (hr g hg))).below (fun k hk h => by omega) hB
theorem row_ge {B : Nat} (h : w.ownsRow B e q v n xs) {k : Nat} (hk : v.ownBlock = some k) : B ≤ k := by
  obtain ⟨h1, h2⟩ := h
  rcases h2 with ⟨rfl, rfl⟩ | ⟨g, cap, cur, rfl, hg, _⟩
  · cases hk
  · injection hk with hk
    have : g = k := hk
    omega
set_option maxRecDepth 100000 in
/-- Append of a part. -/
theorem run_appV (R : Ro T e q by' z) {B : Nat} {u : Value} {m : Nat} {ys : List Value} (hown : w.ownsRow B e q v n xs) (hu : Vw w e q u m ys) (h1 : ∀ x ∈ ys, x.oneCell' = true) (hlen : n + m ≤ 1099511627776) (hB : B ≤ w.heap.size) (ty : TypeId) :
    ∃ v' w', (Builtin.append_ #[T, T] ty #[v, u]).run Tryz.prog w = .ok v' w' ∧ w'.ownsRow B e q v' (n + m) (xs ++ ys) ∧ w.grownBy w' v.ownBlock ∧ (v'.ownBlock = v.ownBlock ∨ v'.ownBlock = some w.heap.size) := by
  obtain ⟨i0, hi, hz0, hz1, hz2⟩ := info_parts R.info
  obtain ⟨hl, ua, uc, rfl, hle, hat⟩ := hu
  by_cases h0 : m = 0
  · subst h0
    have hy : ys = [] := List.eq_nil_of_length_eq_zero (by rw [hl]; simp)
    subst hy
    obtain ⟨va, vc, rfl⟩ := row_slice hown
    have hc : n ≤ vc := by
      obtain ⟨_, h2⟩ := hown
      rcases h2 with ⟨h2, rfl⟩ | ⟨g, cap, cur, h2, hg, hh, h3, _⟩
      · omega
      · injection h2 with _ _ e3
        omega
    refine ⟨_, w, run_append_nothing w T T ty e i0 R.und hi va n vc hc _ ⟨.inl ⟨e, R.und⟩, fun w' => by simp [Builtin.lenOf], ?_, ?_, by simp, by simp⟩, by simpa using hown, ?_, .inl rfl⟩
    · cases ua <;> simp [Builtin.firstCells, loadCells, loadCellsFrom]
    · cases ua <;> simp [Builtin.firstCells, loadCells, loadCellsFrom]
    · exact World.grownBy.refl _ _
  · obtain ⟨g, o, cs, rfl, hb, hcs⟩ := hat h0
    obtain ⟨v', w', hr, ho, hg, _, hat'⟩ := run_append_own_at (P := Tryz.prog) w B T ty e i0 z q by' R.und hi hz0 hz1 hz2 R.zs R.q0 v _ _ hown ⟨g, o, none⟩ m uc ys hl (fun j x hx => by
      rw [Addr.add_lit, hb.cell]
      have : ys[j]? = cs[o + j]? := by
        rw [← hcs, List.getElem?_take, List.getElem?_drop, if_pos (by have := (List.getElem?_eq_some_iff.1 hx).1; omega)]
      rw [← this]
      exact hx) h1 (by unfold maxLen; omega) (by have := R.q9; have : (n + m) * by' ≤ 1099511627776 * 128 := Nat.mul_le_mul hlen R.q9; omega) hB
    exact ⟨v', w', hr, ho, hg, hat'⟩
theorem wp_appV (R : Ro T e q by' z) {s x : Operand} {B : Nat} {u : Value} {m : Nat} {ys : List Value} (hs : a.eval s = v) (hx : a.eval x = u) (hown : w.ownsRow B e q v n xs) (hu : Vw w e q u m ys) (h1 : ∀ x ∈ ys, x.oneCell' = true) (hlen : n + m ≤ 1099511627776) (hB : B ≤ w.heap.size)
    (h : ∀ v' w', w'.ownsRow B e q v' (n + m) (xs ++ ys) → w.grownBy w' v.ownBlock → (v'.ownBlock = v.ownBlock ∨ v'.ownBlock = some w.heap.size) → K (a.put dst v') w') :
    Oper.wp Tryz.prog ⟨dst, .call { callee := .builtin .append, args := #[s, x], argTypes := #[T, T] }, ty, pos, aft, gd⟩ a w K Q := by
  obtain ⟨v', w', hr, h2, h3, h4⟩ := run_appV R hown hu h1 hlen hB ty
  unfold Oper.wp execOp
  simp only [resolve, invoke, builtin, Sem.run_bind, Sem.run_pure, Result.andThen_ok, List.map_toArray, List.map_cons, List.map_nil, hs, hx, hr]
  exact h v' w' h2 h3 h4
theorem step_appV {ops : Array Oper} {rest : List Oper} (R : Ro T e q by' z) {s x : Operand} (hw : Region.wanted ⟨dst, .call { callee := .builtin .append, args := #[s, x], argTypes := #[T, T] }, ty, pos, aft, gd⟩ (yielded ops a.tmps) = true) {B : Nat} {u : Value} {m : Nat} {ys : List Value} (hs : a.eval s = v) (hx : a.eval x = u) (hown : w.ownsRow B e q v n xs) (hu : Vw w e q u m ys) (h1 : ∀ x ∈ ys, x.oneCell' = true) (hlen : n + m ≤ 1099511627776) (hB : B ≤ w.heap.size)
    (h : ∀ v' w', w'.ownsRow B e q v' (n + m) (xs ++ ys) → w.grownBy w' v.ownBlock → (v'.ownBlock = v.ownBlock ∨ v'.ownBlock = some w.heap.size) → wpList Tryz.prog ops Q rest (a.put dst v') w') :
    wpList Tryz.prog ops Q (⟨dst, .call { callee := .builtin .append, args := #[s, x], argTypes := #[T, T] }, ty, pos, aft, gd⟩ :: rest) a w := by
  obtain ⟨v', w', hr, h2, h3, h4⟩ := run_appV R hown hu h1 hlen hB ty
  refine step_run hw v' w' ?_ (h v' w' h2 h3 h4)
  unfold execOp
  simp only [resolve, invoke, builtin, Sem.run_bind, Sem.run_pure, Result.andThen_ok, List.map_toArray, List.map_cons, List.map_nil, hs, hx, hr]
end

end Go.Proofs.YtlgcjdgcgnlcaaaGreatDoor

/-
  The document's disk in memory; New, name, find.
-/
namespace Go.Proofs.YtlgcjdgcgnlcaaaGreatDoor
open Go.RowKit
set_option linter.unusedVariables false

def filC (l : List (ByteArray × List Int)) : List Value := l.flatMap fun x => [.string x.1, .string (str x.2)]
theorem filC_app (a b : List (ByteArray × List Int)) : filC (a ++ b) = filC a ++ filC b := by simp [filC]
theorem filC_cons (x : ByteArray × List Int) (b : List (ByteArray × List Int)) : filC (x :: b) = [.string x.1, .string (str x.2)] ++ filC b := by simp [filC]
theorem filC_length (l : List (ByteArray × List Int)) : (filC l).length = l.length * 2 := by
  induction l with
  | nil => rfl
  | cons x r ih => rw [filC_cons]; simp at ih ⊢; omega
theorem filC_take (l : List (ByteArray × List Int)) (k : Nat) : filC (l.take k) = (filC l).take (k * 2) := by
  by_cases hk : k ≤ l.length
  · have e : filC l = filC (l.take k) ++ filC (l.drop k) := by rw [← filC_app, List.take_append_drop]
    rw [e, List.take_left' (by rw [filC_length, List.length_take, Nat.min_eq_left hk])]
  · rw [List.take_of_length_le (by omega), List.take_of_length_le (by rw [filC_length]; omega)]
theorem filC_drop (l : List (ByteArray × List Int)) (k : Nat) : filC (l.drop k) = (filC l).drop (k * 2) := by
  by_cases hk : k ≤ l.length
  · have e : filC l = filC (l.take k) ++ filC (l.drop k) := by rw [← filC_app, List.take_append_drop]
    rw [e, List.drop_left' (by rw [filC_length, List.length_take, Nat.min_eq_left hk])]
  · rw [List.drop_of_length_le (by omega), List.drop_of_length_le (by rw [filC_length]; omega)]
    rfl
theorem filC_one (l : List (ByteArray × List Int)) : ∀ x ∈ filC l, x.oneCell' = true := by
  intro x hx
  simp only [filC, List.mem_flatMap] at hx
  obtain ⟨y, _, hy⟩ := hx
  simp at hy
  rcases hy with rfl | rfl <;> rfl
def fi0 : Value := .agg #[.string ByteArray.empty, .string ByteArray.empty]
theorem rFi : Ro 104 135 2 32 fi0 := ⟨by kernel_rfl, by kernel_rfl, by kernel_rfl, rfl, by decide, by decide, fun w => by kernel_rfl⟩
theorem wFi : Wide 135 2 := ⟨by kernel_rfl, by kernel_rfl⟩
def rkC (s : Int) (fv qv : Value) : List Value := [.int .i64 s, fv, qv]
/-- The files of the document's disk in memory. -/
structure FkAt (w : World) (r s : Nat) (fv qv : Value) (l : List (ByteArray × List Int)) : Prop where
  blk : Blk w r 107 (rkC s fv qv)
  row : w.ownsRow 0 135 2 fv l.length (filC l)
section
variable {w w' : World} {r s : Nat} {fv qv : Value} {l : List (ByteArray × List Int)}
theorem FkAt.below (h : FkAt w r s fv qv l) (hb : Below w.heap.size w w') : FkAt w' r s fv qv l :=
  ⟨h.blk.on hb, row_same h.row (fun k hk => by obtain ⟨cs, hc⟩ := row_lies h.row hk; exact hb.block k hc.lt)⟩
/-- A file's two cells. -/
theorem FkAt.file (h : FkAt w r s fv qv l) {k : Nat} {x : ByteArray × List Int} (hx : l[k]? = some x) : ∃ g cap cs, fv = .slice (some ⟨g, 0, none⟩) l.length cap ∧ Blk w g 135 cs ∧ cs.take (l.length * 2) = filC l ∧ l.length * 2 ≤ cs.length ∧ (cs.drop (k * 2)).take 2 = [.string x.1, .string (str x.2)] ∧ cs[k * 2]? = some (.string x.1) ∧ cs[k * 2 + 1]? = some (.string (str x.2)) := by
  have hlt : k < l.length := (List.getElem?_eq_some_iff.1 hx).1
  obtain ⟨g, cap, cs, h1, h2, h3, h4⟩ := row_at h.row (by omega)
  have e1 : l = l.take k ++ (x :: l.drop (k + 1)) := by
    obtain ⟨hlt, rfl⟩ := List.getElem?_eq_some_iff.1 hx
    rw [← List.drop_eq_getElem_cons hlt, List.take_append_drop]
  have e2 : filC l = filC (l.take k) ++ ([.string x.1, .string (str x.2)] ++ filC (l.drop (k + 1))) := by rw [← filC_cons, ← filC_app, ← e1]
  have e3 : (filC (l.take k)).length = k * 2 := by rw [filC_length, List.length_take, Nat.min_eq_left (by omega)]
  have e4 : (cs.drop (k * 2)).take 2 = [.string x.1, .string (str x.2)] := by
    have : ((filC l).drop (k * 2)).take 2 = [.string x.1, .string (str x.2)] := by
      rw [e2, List.drop_left' e3]
      rfl
    rw [← h3, List.drop_take, List.take_take, Nat.min_eq_left (by omega)] at this
    exact this
  refine ⟨g, cap, cs, h1, h2, h3, h4, e4, ?_, ?_⟩
  · have := congrArg (fun z => z[0]?) e4
    simpa [List.getElem?_take, List.getElem?_drop] using this
  · have := congrArg (fun z => z[1]?) e4
    simpa [List.getElem?_take, List.getElem?_drop] using this
end

theorem nameR_any (n : ByteArray) (w : World) : Calls Tryz.prog 88 #[.string n] w fun e w' => e = .returned (.bool (nmB n)) ∧ w' = w := by
  unfold nmB
  by_cases h1 : 1 ≤ n.size
  · by_cases h2 : n.size ≤ 128
    · go_enter Tryz.func88, Tryz.ntmps88
      go_wp2
      go_ret
      exact ⟨by congr; simp [h1, h2]; omega, rfl⟩
    · go_enter Tryz.func88, Tryz.ntmps88
      go_wp2
      go_ret
      exact ⟨by congr; simp [h1, h2]; omega, rfl⟩
  · go_enter Tryz.func88, Tryz.ntmps88
    go_wp2
    go_ret
    exact ⟨by simp, rfl⟩
/-- Is the file there that find's place shows? -/
theorem FL.found {f : ByteArray → Option (List Int)} {l : List (ByteArray × List Int)} (h : FL f l) (n : ByteArray) {x : ByteArray × List Int} (hx : l[posF l n]? = some x) : (x.1.toList == n.toList) = (f n).isSome := by
  obtain ⟨A, B, rfl, hA, hlt, hB⟩ := h.split n
  have hx2 : B[0]? = some x := by rw [← hA, List.getElem?_append_right (Nat.le_refl _), Nat.sub_self] at hx; exact hx
  rcases hB with ⟨h1, h2⟩ | ⟨xs, B', h1, rfl, h3⟩
  · rw [h1]
    have := h2 x (List.mem_of_getElem? hx2)
    exact beqS_ne (Ne.symm (blt_ne this))
  · simp at hx2
    subst hx2
    rw [h1]
    simp
theorem FL.gone {f : ByteArray → Option (List Int)} {l : List (ByteArray × List Int)} (h : FL f l) (n : ByteArray) (hx : l.length ≤ posF l n) : (f n).isSome = false := by
  obtain ⟨A, B, rfl, hA, hlt, hB⟩ := h.split n
  have hB0 : B = [] := by
    rw [List.length_append] at hx
    exact List.eq_nil_of_length_eq_zero (by omega)
  subst hB0
  rcases hB with ⟨h1, h2⟩ | ⟨xs, B', h1, h2, h3⟩
  · rw [h1]; rfl
  · cases h2
set_option maxRecDepth 100000 in
set_option maxHeartbeats 1000000 in
theorem find_any (r s : Nat) (fv qv : Value) (l : List (ByteArray × List Int)) (f : ByteArray → Option (List Int)) (n : ByteArray) (w : World) (h : FkAt w r s fv qv l) (hf : FL f l) (hl : l.length ≤ 1099511000000) :
    Calls Tryz.prog 70 #[.pointer (some ⟨r, 0, none⟩), .string n] w fun e w' => e = .returned (.tuple #[.int .i64 (posF l n : Nat), .bool (f n).isSome]) ∧ Below w.heap.size w w' := by
  obtain ⟨fa, fc, rfl⟩ := row_slice h.row
  have c1 : w.cell? ⟨r, 1, none⟩ = some (.slice fa l.length fc) := by rw [h.blk.cell]; rfl
  have HH := hide h
  have HF := hide hf
  clear h hf
  generalize hL : l.length = L at *
  have HL := hide hL
  clear hL
  go_enter Tryz.func70, Tryz.ntmps70
  go_wp2
  go_loopw [6] (fun i wr => ∃ k : Nat, i = .int .i64 (k : Int) ∧ Hid (k ≤ posF l n) ∧ w = wr) (fun i _ => L - (intOf i).toNat)
  case atStart => exact ⟨0, rfl, hide (Nat.zero_le _), rfl⟩
  case round =>
    obtain ⟨k, rfl, HK, rfl⟩ := hrel
    have hkL : k ≤ L := by have h1 := HK.out; have h2 := posF_le l n; have h3 := HL.out; omega
    by_cases hlt : k < L
    · obtain ⟨x, hx⟩ : ∃ x, l[k]? = some x := ⟨_, List.getElem?_eq_getElem (by rw [HL.out]; exact hlt)⟩
      obtain ⟨g, cap, cs, e1, hg, _, _, _, hc0, _⟩ := HH.out.file hx
      injection e1 with e1 _ e3
      subst e1 e3
      have hix := vw_at rFi g L fc k hlt
      have hcell : w.cell? ⟨g, k * 2, none⟩ = some (.string x.1) := by rw [hg.cell]; exact hc0
      have hlti : (k : Int) < (L : Int) := by omega
      have hpos := posF_lt l n k x hx HK.out
      unfold blt at hpos
      have HPOS := hide hpos
      have HX := hide hx
      clear hpos hc0 hg hx
      cases hb : Op.bytesLess x.1.toList n.toList with
      | true =>
        go_wp2
        go_roundw
        case rel => exact ⟨k + 1, by go_num, hide (HPOS.out.1 hb), trivial⟩
        case measure => simp [intOf]; omega
      | false =>
        have hkp : k = posF l n := by
          have h1 := HK.out
          have h2 : ¬ k < posF l n := fun h => by rw [HPOS.out.2 h] at hb; cases hb
          omega
        have HKP := hide hkp
        clear hkp
        go_wp2_with fail
        go_quiet (fail)
        go_wp2
        go_ret2
        rw [← HF.out.found n (by rw [← HKP.out]; exact HX.out), ← HKP.out]
        exact ⟨rfl, below_drewN (Below.refl _ _) _⟩
    · have hlti : ¬ (k : Int) < (L : Int) := by omega
      have hkp : k = posF l n := by have h1 := HK.out; have h2 := posF_le l n; have h3 := HL.out; omega
      have HKP := hide hkp
      clear hkp
      go_wp2_with fail
      go_quiet (fail)
      go_wp2
      go_ret2
      rw [HF.out.gone n (by have h2 := HKP.out; have h3 := HL.out; omega), ← HKP.out]
      exact ⟨rfl, below_drewN (Below.refl _ _) _⟩

end Go.Proofs.YtlgcjdgcgnlcaaaGreatDoor

/-
  The document's disk in memory, whole; what do's branches leave, and its end.
-/
namespace Go.Proofs.YtlgcjdgcgnlcaaaGreatDoor
open Go.RowKit
set_option linter.unusedVariables false

theorem str_take (xs : List Int) (k : Nat) : (str xs).extract 0 k = str (xs.take k) := by
  apply ByteArray.ext
  rw [ByteArray.data_extract]
  apply Array.toList_inj.1
  rw [Array.toList_extract]
  simp [str, strOfNums, List.extract, List.map_take]
/-- Raw writes' cells, one behind the other. -/
def rwsC (l : List (Rw × Value)) : List Value := l.flatMap fun x => rwC x.1.k x.1.n x.2 x.1.s x.1.t
theorem rwsC_app (a b : List (Rw × Value)) : rwsC (a ++ b) = rwsC a ++ rwsC b := by simp [rwsC]
theorem rRw : Ro 105 116 5 72 (.agg rw0.toArray) := ⟨by kernel_rfl, by kernel_rfl, by kernel_rfl, rfl, by decide, by decide, fun w => by kernel_rfl⟩
structure Rm where
  fv : Value
  qv : Value
  l : List (ByteArray × List Int)
  qs : List (Rw × Value)
def Rm.own (R : Rm) (r k : Nat) : Prop := k = r ∨ R.fv.ownBlock = some k ∨ R.qv.ownBlock = some k
def Rm.ro (R : Rm) (k : Nat) : Prop := ∃ x ∈ R.qs, x.2.ownBlock = some k
/-- The document's disk in memory, with the raw writes that it has recorded. -/
structure RkAt (w : World) (r s : Nat) (rs : List Rw) (R : Rm) : Prop where
  s1 : 1 ≤ s
  s2 : s ≤ 4096
  fk : FkAt w r s R.fv R.qv R.l
  row : w.ownsRow 0 116 5 R.qv R.qs.length (rwsC R.qs)
  byt : ∀ x ∈ R.qs, BV w x.2 x.1.b
  raw : R.qs.map (·.1) = rs
  fls : FL (play rs) R.l
  val : Val s (fun _ => none) rs
  few : R.l.length ≤ rs.length
section
variable {w w' W : World} {r s : Nat} {rs : List Rw} {R : Rm}
theorem RkAt.same (h : RkAt w r s rs R) (hk : ∀ k, R.own r k ∨ R.ro k → w'.heap[k]? = w.heap[k]?) : RkAt w' r s rs R :=
  ⟨h.s1, h.s2, ⟨h.fk.blk.same (hk r (.inl (.inl rfl))), row_same h.fk.row (fun k e => hk k (.inl (.inr (.inl e))))⟩, row_same h.row (fun k e => hk k (.inl (.inr (.inr e)))), fun x hx => (h.byt x hx).same (fun k e => hk k (.inr ⟨x, hx, e⟩)), h.raw, h.fls, h.val, h.few⟩
/-- A block of the disk's, with its kind. -/
theorem RkAt.kind (h : RkAt w r s rs R) {k : Nat} (hk : R.own r k) : ∃ t cs, Blk w k t cs ∧ (t = 107 ∨ t = 135 ∨ t = 116) := by
  rcases hk with rfl | hk | hk
  · exact ⟨_, _, h.fk.blk, .inl rfl⟩
  · obtain ⟨cs, hc⟩ := row_lies h.fk.row hk; exact ⟨_, cs, hc, .inr (.inl rfl)⟩
  · obtain ⟨cs, hc⟩ := row_lies h.row hk; exact ⟨_, cs, hc, .inr (.inr rfl)⟩
theorem RkAt.off (h : RkAt w r s rs R) {k : Nat} {cs : List Value} (hc : Blk w k 5 cs) : ¬ R.own r k := fun hk => by
  obtain ⟨t, cs', h1, h2⟩ := h.kind hk
  rcases h2 with rfl | rfl | rfl <;> exact hc.apart h1 (by decide) rfl
theorem RkAt.lt (h : RkAt w r s rs R) {k : Nat} (hk : R.own r k ∨ R.ro k) : k < w.heap.size := by
  rcases hk with hk | ⟨x, hx, hk⟩
  · obtain ⟨t, cs, h1, _⟩ := h.kind hk; exact h1.lt
  · obtain ⟨cs, hc⟩ := (h.byt x hx).lies hk; exact hc.lt
theorem RkAt.below (h : RkAt w r s rs R) (hb : Below w.heap.size w w') : RkAt w' r s rs R := h.same (fun k hk => hb.block k (h.lt hk))
theorem RkAt.chs {S : Nat → Prop} (h : RkAt w r s rs R) (hc : Chs S w w') (hn : ∀ k, R.own r k ∨ R.ro k → ¬ S k) : RkAt w' r s rs R := h.same (fun k hk => hc.block k (h.lt hk) (hn k hk))
end
/-- What a call that writes leaves of the document's disk; v: a slice that it may keep. -/
def RoR (w w' : World) (r s : Nat) (R : Rm) (rs' : List Rw) (v : Value) : Prop :=
  ∃ R', RkAt w' r s rs' R' ∧ Chs (R.own r) w w' ∧ (∀ k, R'.own r k → R.own r k ∨ w.heap.size ≤ k) ∧ (∀ k, R'.ro k → R.ro k ∨ v.ownBlock = some k)
/-- What stands in do behind a branch. -/
structure DsR (w W : World) (r s : Nat) (R : Rm) (fv : Value) (l : List (ByteArray × List Int)) (x : Rw) (v : Value) (g3 : Nat) : Prop where
  fk : FkAt W r s fv R.qv l
  row : W.ownsRow 0 116 5 R.qv R.qs.length (rwsC R.qs)
  gb : Blk W g3 116 (rwC x.k x.n v x.s x.t)
  new : w.heap.size ≤ g3
  chs : Chs (R.own r) w W
  lie : ∀ k, fv.ownBlock = some k → R.own r k ∨ w.heap.size ≤ k
  off : R.qv.ownBlock ≠ some g3
section
variable {w W W' : World} {r s : Nat} {rs : List Rw} {R : Rm} {fv : Value} {l : List (ByteArray × List Int)} {x : Rw} {v : Value} {g3 : Nat}
theorem DsR.below (h : DsR w W r s R fv l x v g3) (hb : Below W.heap.size W W') : DsR w W' r s R fv l x v g3 :=
  ⟨h.fk.below hb, row_same h.row (fun k hk => by obtain ⟨cs, hc⟩ := row_lies h.row hk; exact hb.block k hc.lt), h.gb.on hb, h.new, h.chs.thenBelow hb, h.lie, h.off⟩
theorem DsR.r0 (h : DsR w W r s R fv l x v g3) : W.cell? ⟨g3, 0, none⟩ = some (.int .i64 x.k) := by rw [h.gb.cell]; rfl
theorem DsR.r1 (h : DsR w W r s R fv l x v g3) : W.cell? ⟨g3, 1, none⟩ = some (.string x.n) := by rw [h.gb.cell]; rfl
theorem DsR.r2 (h : DsR w W r s R fv l x v g3) : W.cell? ⟨g3, 2, none⟩ = some v := by rw [h.gb.cell]; rfl
theorem DsR.r3 (h : DsR w W r s R fv l x v g3) : W.cell? ⟨g3, 3, none⟩ = some (.int .i64 x.s) := by rw [h.gb.cell]; rfl
theorem DsR.r4 (h : DsR w W r s R fv l x v g3) : W.cell? ⟨g3, 4, none⟩ = some (.string x.t) := by rw [h.gb.cell]; rfl
theorem DsR.c1 (h : DsR w W r s R fv l x v g3) : W.cell? ⟨r, 1, none⟩ = some fv := by rw [h.fk.blk.cell]; rfl
theorem DsR.c2 (h : DsR w W r s R fv l x v g3) : W.cell? ⟨r, 2, none⟩ = some R.qv := by rw [h.fk.blk.cell]; rfl
theorem RkAt.ds (h : RkAt w r s rs R) {w1 : World} (hb : Below w.heap.size w w1) (hg : Blk w1 g3 116 (rwC x.k x.n v x.s x.t)) (hl : w.heap.size ≤ g3) : DsR w w1 r s R R.fv R.l x v g3 :=
  ⟨h.fk.below hb, row_same h.row (fun k hk => by obtain ⟨cs, hc⟩ := row_lies h.row hk; exact hb.block k hc.lt), hg, hl, Chs.of_below _ hb, fun k hk => .inl (.inr (.inl hk)), fun e => by have := h.lt (.inl (.inr (.inr e))); omega⟩
/-- The record has grown: the disk is whole again. -/
theorem DsR.done {rs' : List Rw} {qv' : Value} (h : RkAt w r s rs R) (hr : Lraw s (play rs) x) (hv : BV w v x.b) (hf : FL (doR (play rs) x) l) (hl : l.length ≤ rs.length + 1) (hfk : FkAt W' r s fv qv' l) (hrow : W'.ownsRow 0 116 5 qv' (R.qs ++ [(x, v)]).length (rwsC (R.qs ++ [(x, v)])))
    (hchs : Chs (R.own r) w W') (hlie : ∀ k, fv.ownBlock = some k → R.own r k ∨ w.heap.size ≤ k) (hlq : ∀ k, qv'.ownBlock = some k → R.own r k ∨ w.heap.size ≤ k) (hrs : rs' = rs ++ [x]) : RoR w W' r s R rs' v := by
  subst hrs
  refine ⟨⟨fv, qv', l, R.qs ++ [(x, v)]⟩, ⟨h.s1, h.s2, hfk, hrow, ?_, ?_, ?_, ?_, ?_⟩, hchs, ?_, ?_⟩
  · intro y hy
    rcases List.mem_append.1 hy with hy | hy
    · exact (h.byt y hy).same (fun k hk => by
        obtain ⟨cs, hc⟩ := (h.byt y hy).lies hk
        exact hchs.block k hc.lt (h.off hc))
    · simp at hy
      subst hy
      exact hv.same (fun k hk => by
        obtain ⟨cs, hc⟩ := hv.lies hk
        exact hchs.block k hc.lt (h.off hc))
  · simp [h.raw]
  · rw [play_snoc]; exact hf
  · rw [Val_app]
    exact ⟨h.val, hr, trivial⟩
  · simpa using hl
  · intro k hk
    rcases hk with hk | hk | hk
    · exact .inl (.inl hk)
    · exact hlie k hk
    · exact hlq k hk
  · intro k ⟨y, hy, e⟩
    rcases List.mem_append.1 hy with hy | hy
    · exact .inl ⟨y, hy, e⟩
    · simp at hy
      subst hy
      exact .inr e
end
theorem val_isB {s : Nat} : ∀ (rs : List Rw) (f : ByteArray → Option (List Int)), Val s f rs → (∀ n xs, f n = some xs → isB xs) → ∀ n xs, (rs.foldl doR f) n = some xs → isB xs
  | [], f, _, h => h
  | r :: t, f, hv, h => by
    refine val_isB t (doR f r) hv.2 (fun n xs hn => ?_)
    have key : ∀ (g : ByteArray → Option (List Int)) (m : ByteArray) (u : Option (List Int)), (∀ n xs, g n = some xs → isB xs) → (∀ xs, u = some xs → isB xs) → ∀ n xs, upd g m u n = some xs → isB xs := by
      intro g m u h1 h2 n xs hn
      unfold upd at hn
      split at hn
      · exact h2 xs hn
      · exact h1 n xs hn
    have hfl : ∀ m, isB (fl f m) := fun m => by
      unfold fl
      cases hm : f m with
      | none => exact fun x hx => by cases hx
      | some ys => exact h m ys hm
    rcases hv.1.1 with ⟨m, rfl, _⟩ | ⟨m, b, ys, rfl, _, _, _, hb⟩ | ⟨m, k, ys, rfl, _⟩ | ⟨m, ys, rfl, _⟩ | ⟨m, u, ys, rfl, _⟩
    · rw [do_cr] at hn
      exact key _ _ _ h (fun zs e => by injection e with e; subst e; exact fun x hx => by cases hx) n xs hn
    · rw [do_ap] at hn
      exact key _ _ _ h (fun zs e => by injection e with e; subst e; exact (hfl m).append hb) n xs hn
    · rw [do_cu] at hn
      exact key _ _ _ h (fun zs e => by injection e with e; subst e; exact (hfl m).take _) n xs hn
    · rw [do_rm] at hn
      exact key _ _ _ h (fun zs e => by cases e) n xs hn
    · rw [do_rn] at hn
      exact key _ _ _ (key _ _ _ h (fun zs e => by injection e with e; subst e; exact hfl m)) (fun zs e => by cases e) n xs hn
theorem RkAt.isb {w : World} {r s : Nat} {rs : List Rw} {R : Rm} (h : RkAt w r s rs R) {n : ByteArray} {xs : List Int} (hn : play rs n = some xs) : isB xs := val_isB rs _ h.val (fun n xs h => by cases h) n xs hn

/-! ### slices of files made -/
section
variable {dst : Option Tmp} {ty : TypeId} {pos : String} {aft : Array Edge} {gd : Option (Nat × Bool)} {ops : Array Oper} {rest : List Oper} {a : Act} {w : World} {K : Act → World → Prop} {Q : Exit → Act → World → Prop}
theorem build0F (w : World) : (Instr.buildSlice 104 0 #[]).run Tryz.prog w = .ok (.slice (some ⟨w.heap.size, 0, none⟩) 0 0) (w.alloc (.cells #[] 135)) := by kernel_rfl
set_option maxRecDepth 100000 in
theorem wp_0F {B : Nat} (hB : B ≤ w.heap.size) (h : ∀ w1 v, ((∃ g, v = .slice (some ⟨g, 0, none⟩) 0 0) ∧ w1.ownsRow B 135 2 v 0 []) → Below w.heap.size w w1 → K (a.put dst v) w1) :
    Oper.wp Tryz.prog ⟨dst, .buildSlice 104 0 #[], ty, pos, aft, gd⟩ a w K Q := by
  refine wp_runV (.slice (some ⟨w.heap.size, 0, none⟩) 0 0) (w.alloc (.cells #[] 135)) ?_ (h _ _ ⟨⟨_, rfl⟩, by simp, .inr ⟨w.heap.size, 0, #[], rfl, hB, heap_alloc_new w _, Nat.le_refl _, by unfold maxLen; omega, by simp, by simp⟩⟩ ((Below.refl _ _).alloc (Nat.le_refl _) _))
  unfold execOp
  simp only [List.map_toArray, List.map_nil]
  simp only [Sem.run_bind, build0F, Result.andThen_ok, Sem.run_pure]
theorem build_F (n b : ByteArray) (w : World) :
    (Instr.buildSlice 104 1 #[(0, .agg #[.string n, .string b])]).run Tryz.prog w = .ok (.slice (some ⟨w.heap.size, 0, none⟩) 1 1) (w.alloc (.cells #[.string n, .string b] 135)) := by kernel_rfl
set_option maxRecDepth 100000 in
theorem wp_oneF {x : Operand} {n : ByteArray} {xs : List Int} (hx : a.eval x = .agg #[.string n, .string (str xs)]) (h : ∀ w1 v, Vw w1 135 2 v 1 (filC [(n, xs)]) → Below w.heap.size w w1 → K (a.put dst v) w1) :
    Oper.wp Tryz.prog ⟨dst, .buildSlice 104 1 #[(0, x)], ty, pos, aft, gd⟩ a w K Q := by
  refine wp_runV (.slice (some ⟨w.heap.size, 0, none⟩) 1 1) (w.alloc (.cells #[.string n, .string (str xs)] 135)) ?_ (h _ _ ⟨by simp [filC], _, _, rfl, Nat.le_refl _, fun _ => ⟨_, 0, [.string n, .string (str xs)], rfl, Blk.made w 135 [.string n, .string (str xs)], rfl⟩⟩ ((Below.refl _ _).alloc (Nat.le_refl _) _))
  unfold execOp
  simp only [List.map_toArray, List.map_cons, List.map_nil, hx]
  simp only [Sem.run_bind, build_F, Result.andThen_ok, Sem.run_pure]
end

end Go.Proofs.YtlgcjdgcgnlcaaaGreatDoor
