/-
  The widths of tiles and the numbers of levels, of the program and of the document.
-/
import Derived.Test.YtnlpgkfmjlljdaaTa
import Derived.Test.YtnlpgkfmjlljdaaNw
import Derived.Test.YtnlpgkfmjlljdaaBl
namespace Go.Proofs.Ytnlpgkfmjlljdaa
open Go.RowKit
set_option linter.unusedVariables false

theorem isH.ints {h : Nat} (hh : isH h) : (h : Int) ≥ 1 ∧ (h : Int) ≤ 8 := by obtain ⟨h1, h2⟩ := hh; omega
theorem isHeight_yes (h : Nat) (w : World) (hh : isH h) : Calls Try.prog 18 #[.int .i64 (h : Int)] w fun r w' => r = .returned (.bool true) ∧ w' = w := by
  obtain ⟨h1, h8⟩ := hh.ints
  go_enter Try.func18, Try.ntmps18
  go_wp2
  go_ret
  exact ⟨rfl, rfl⟩
theorem isHeight_no (h : Int) (w : World) (hh : h < 1 ∨ 8 < h) : Calls Try.prog 18 #[.int .i64 h] w fun r w' => r = .returned (.bool false) ∧ w' = w := by
  rcases hh with hh | hh
  · have h1 : ¬ h ≥ 1 := by omega
    go_enter Try.func18, Try.ntmps18
    go_wp2
    go_ret
    exact ⟨rfl, rfl⟩
  · have h1 : h ≥ 1 := by omega
    have h2 : decide (h ≤ 8) = false := by simp; omega
    go_enter Try.func18, Try.ntmps18
    go_wp2
    go_ret
    exact ⟨rfl, rfl⟩
theorem heightR_yes (h : Nat) (w : World) (hh : isH h) : Calls Try.prog 20 #[.int .i64 (h : Int)] w fun r w' => r = .returned (.bool true) ∧ w' = w := by
  obtain ⟨h1, h8⟩ := hh.ints
  go_enter Try.func20, Try.ntmps20
  go_wp2
  go_ret
  exact ⟨rfl, rfl⟩
theorem heightR_no (h : Int) (w : World) (hh : h < 1 ∨ 8 < h) : Calls Try.prog 20 #[.int .i64 h] w fun r w' => r = .returned (.bool false) ∧ w' = w := by
  rcases hh with hh | hh
  · have h1 : ¬ h ≥ 1 := by omega
    go_enter Try.func20, Try.ntmps20
    go_wp2
    go_ret
    exact ⟨rfl, rfl⟩
  · have h1 : h ≥ 1 := by omega
    have h2 : decide (h ≤ 8) = false := by simp; omega
    go_enter Try.func20, Try.ntmps20
    go_wp2
    go_ret
    exact ⟨rfl, rfl⟩
theorem isSize_yes (n : Nat) (w : World) (hn : n ≤ 281474976710656) : Calls Try.prog 23 #[.int .i64 (n : Int)] w fun r w' => r = .returned (.bool true) ∧ w' = w := by
  have h1 : (n : Int) ≤ 281474976710656 := by omega
  go_enter Try.func23, Try.ntmps23
  go_wp2
  go_ret
  exact ⟨rfl, rfl⟩
theorem isSize_no (n : Int) (w : World) (hn : n < 0 ∨ 281474976710656 < n) : Calls Try.prog 23 #[.int .i64 n] w fun r w' => r = .returned (.bool false) ∧ w' = w := by
  rcases hn with hn | hn
  · have h1 : ¬ n ≥ 0 := by omega
    go_enter Try.func23, Try.ntmps23
    go_wp2
    go_ret
    exact ⟨rfl, rfl⟩
  · have h1 : n ≥ 0 := by omega
    have h2 : decide (n ≤ 281474976710656) = false := by simp; omega
    go_enter Try.func23, Try.ntmps23
    go_wp2
    go_ret
    exact ⟨rfl, rfl⟩
theorem full_any (h P : Nat) (w : World) (hh : isH h) (hP : 2 ^ h = P) : Calls Try.prog 22 #[.int .i64 (h : Int)] w fun r w' => r = .returned (.int .i64 (P : Int)) ∧ w' = w := by
  obtain ⟨h1, h8⟩ := hh.ints
  have hp := hh.pow
  have HW : Hid (wrap64 (2 ^ h) = (P : Int)) := hide (by
    have e : ((2 : Int) ^ h) = (P : Int) := by rw [← hP]; simp [Int.natCast_pow]
    rw [e]; unfold wrap64; omega)
  clear hP hp hh
  go_enter Try.func22, Try.ntmps22
  go_wp2
  go_ret
  refine ⟨?_, rfl⟩
  rw [HW.out]
  rfl
theorem below_self (w : World) (n : Nat) : Below w.heap.size w (w.drewN n) := ⟨rfl, rfl, rfl, Nat.le_refl _, fun _ _ => rfl⟩
theorem pow_int (a k : Nat) : (a : Int) / 2 ^ k = ((a / 2 ^ k : Nat) : Int) := by rw [Int.natCast_ediv, Int.natCast_pow]; rfl
theorem quo48 (h : Nat) : (48 : Int) / (h : Int) = ((48 / h : Nat) : Int) := by rw [Int.natCast_ediv]; rfl
/-- What the walk asks of the numbers of a tile in a log. -/
theorem width_facts {h l i n P : Nat} (hP : 2 ^ h = P) (hh : isH h) (hn : n ≤ 281474976710656) (hl : l ≤ 48 / h) (hi : i ≤ tOv h l n / P) :
    ∃ M D X : Nat, (h : Int) * (l : Int) = (M : Int) ∧ M ≤ 48 ∧ (n : Int) / 2 ^ M = (D : Int) ∧ D = tOv h l n ∧ D ≤ 281474976710656 ∧ (i : Int) * 2 ^ h = (X : Int) ∧ X = i * P ∧ X ≤ D ∧ (D : Int) / 2 ^ h = ((D / P : Nat) : Int) ∧ (i : Int) * (P : Int) = (X : Int) ∧ (D : Int) / (P : Int) = ((D / P : Nat) : Int) := by
  have hM := low_of hh hl
  have hle : i * P ≤ tOv h l n := Nat.le_trans (Nat.mul_le_mul_right P hi) (Nat.div_mul_le_self _ _)
  refine ⟨h * l, tOv h l n, i * P, (Int.natCast_mul h l).symm, hM, pow_int n (h * l), rfl, Nat.le_trans (tOv_le h l n) hn, ?_, rfl, hle, ?_, ?_, ?_⟩
  · rw [← hP, Int.natCast_mul, Int.natCast_pow]; rfl
  · rw [pow_int, hP]
  · rw [Int.natCast_mul]
  · rw [Int.natCast_ediv]
theorem w64 (x : Int) (h0 : -9223372036854775808 ≤ x) (h1 : x ≤ 9223372036854775807) : wrap64 x = x := by unfold wrap64; omega
theorem tW_eq {h l i n P D X : Nat} (hP : 2 ^ h = P) (hD : D = tOv h l n) (hX : X = i * P) : tW h l i n = min (D - X) P := by subst hP hD hX; rfl
theorem pow_w {h P : Nat} (hP : 2 ^ h = P) (hh : isH h) : wrap64 (2 ^ h) = (P : Int) ∧ IntKind.i64.wrap (2 ^ h) = (P : Int) ∧ 2 ≤ P ∧ P ≤ 256 := by
  have hp := hh.pow
  have e : ((2 : Int) ^ h) = (P : Int) := by rw [← hP]; simp [Int.natCast_pow]
  rw [hP] at hp
  rw [e]
  refine ⟨by unfold wrap64; omega, by rw [IntKind.wrap_i64]; omega, hp⟩
theorem tW_none {h l i n : Nat} (h0 : tOv h l n = 0) : tW h l i n = 0 := by unfold tW; rw [h0, Nat.zero_sub, Nat.zero_min]
set_option maxHeartbeats 1000000 in
theorem width_ok (h l i n : Nat) (w : World) (hh : isH h) (hn : n ≤ 281474976710656) (hl : l ≤ 9223372036854775807) (hi : i ≤ 9223372036854775807) :
    Calls Try.prog 10 #[.int .i64 (h : Int), .int .i64 (l : Int), .int .i64 (i : Int), .int .i64 (n : Int)] w fun r w' => r = .returned (.tuple #[.int .i64 (tW h l i n : Nat), .int .i64 0]) ∧ Below w.heap.size w w' := by
  obtain ⟨h1, h8⟩ := hh.ints
  have hn' : (n : Int) ≤ 281474976710656 := by omega
  have HH := hide hh
  have l0 : ¬ (l : Int) < 0 := by omega
  have i0 : ¬ (i : Int) < 0 := by omega
  obtain ⟨P, hP⟩ : ∃ P, 2 ^ h = P := ⟨_, rfl⟩
  obtain ⟨p1, p2, p3, p4⟩ := pow_w hP hh
  have HP := hide p1
  clear p1 p2
  by_cases hlv : 48 / h < l
  · have e : tW h l i n = 0 := tW_none (tOv_high hn (high_of hh hlv))
    rw [e]
    have c1 : (48 : Int) / (h : Int) < (l : Int) := by rw [quo48]; omega
    clear e hlv hP hh
    go_enter Try.func10, Try.ntmps10
    go_wp2_with (first | (go_at_call 18; refine (isHeight_yes h _ HH.out).mono ?_; rintro r w' ⟨rfl, rfl⟩) | (go_at_call 23; refine (isSize_yes n _ hn).mono ?_; rintro r w' ⟨rfl, rfl⟩))
    go_ret2
    exact ⟨rfl, Below.refl _ _⟩
  · have hlv' : l ≤ 48 / h := by omega
    have c1 : ¬ (48 : Int) / (h : Int) < (l : Int) := by rw [quo48]; omega
    by_cases hix : tOv h l n / P < i
    · have e : tW h l i n = 0 := tW_past (by rw [hP]; exact hix)
      rw [e]
      obtain ⟨M, D, X, f1, f2, f3, f4, f5, f6, f7, f8, f9, f10, f11⟩ := width_facts (i := 0) hP hh hn hlv' (Nat.zero_le _)
      rw [← f4] at hix
      have c2 : ((D / P : Nat) : Int) < (i : Int) := by omega
      have hM : (M : Int) ≤ 48 := by omega
      have hD : (D : Int) ≤ 281474976710656 := by omega
      clear f4 f7 f6 f8 f10 f11 f2 f5 hP hlv hlv' hix hh e
      generalize D / P = E at *
      go_enter Try.func10, Try.ntmps10
      go_wp2_with (first | (go_at_call 18; refine (isHeight_yes h _ HH.out).mono ?_; rintro r w' ⟨rfl, rfl⟩) | (go_at_call 23; refine (isSize_yes n _ hn).mono ?_; rintro r w' ⟨rfl, rfl⟩))
      go_ret2
      exact ⟨rfl, Below.refl _ _⟩
    · obtain ⟨M, D, X, f1, f2, f3, f4, f5, f6, f7, f8, f9, f10, f11⟩ := width_facts hP hh hn hlv' (by omega : i ≤ tOv h l n / P)
      rw [tW_eq hP f4 f7]
      have c2 : ¬ ((D / P : Nat) : Int) < (i : Int) := by rw [f4]; omega
      have hM : (M : Int) ≤ 48 := by omega
      have hD : (D : Int) ≤ 281474976710656 := by omega
      have hX : (X : Int) ≤ (D : Int) := by omega
      generalize D / P = E at *
      have hmin : min ((D : Int) - (X : Int)) (P : Int) = ((min (D - X) P : Nat) : Int) := by omega
      have HM := hide hmin
      clear f4 f7 hP hlv hlv' hix hh f2 f5 f8 f10 f11 hmin
      go_enter Try.func10, Try.ntmps10
      go_wp2_with (first | (go_at_call 18; refine (isHeight_yes h _ HH.out).mono ?_; rintro r w' ⟨rfl, rfl⟩) | (go_at_call 23; refine (isSize_yes n _ hn).mono ?_; rintro r w' ⟨rfl, rfl⟩))
      go_quiet (fail)
      go_wp2
      go_ret2
      refine ⟨?_, below_self _ _⟩
      rw [HP.out, HM.out]
      rfl
/-- What is amiss with the numbers of a tile in a log. -/
def wdE (h l i n : Int) : Int := if h < 1 ∨ 8 < h ∨ l < 0 ∨ i < 0 then 2 else 40
set_option maxHeartbeats 1000000 in
theorem width_bad (h l i n : Int) (w : World) (hb : (h < 1 ∨ 8 < h ∨ l < 0 ∨ i < 0) ∨ n < 0 ∨ 281474976710656 < n) :
    Calls Try.prog 10 #[.int .i64 h, .int .i64 l, .int .i64 i, .int .i64 n] w fun r w' => r = .returned (.tuple #[.int .i64 0, .int .i64 (wdE h l i n)]) ∧ Below w.heap.size w w' := by
  by_cases hh : h < 1 ∨ 8 < h
  · have e : wdE h l i n = 2 := by unfold wdE; rw [if_pos (by omega)]
    rw [e]
    clear e hb
    go_enter Try.func10, Try.ntmps10
    go_wp2_with (go_at_call 18; refine (isHeight_no h _ hh).mono ?_; rintro r w' ⟨rfl, rfl⟩)
    go_ret2
    exact ⟨rfl, Below.refl _ _⟩
  · obtain ⟨H, rfl⟩ : ∃ H : Nat, h = (H : Int) := ⟨h.toNat, by omega⟩
    have hH : isH H := ⟨by omega, by omega⟩
    by_cases hl : l < 0
    · have e : wdE (H : Int) l i n = 2 := by unfold wdE; rw [if_pos (by omega)]
      rw [e]
      clear e hb hh
      go_enter Try.func10, Try.ntmps10
      go_wp2_with (go_at_call 18; refine (isHeight_yes H _ hH).mono ?_; rintro r w' ⟨rfl, rfl⟩)
      go_ret2
      exact ⟨rfl, Below.refl _ _⟩
    · by_cases hi : i < 0
      · have e : wdE (H : Int) l i n = 2 := by unfold wdE; rw [if_pos (by omega)]
        rw [e]
        clear e hb hh
        go_enter Try.func10, Try.ntmps10
        go_wp2_with (go_at_call 18; refine (isHeight_yes H _ hH).mono ?_; rintro r w' ⟨rfl, rfl⟩)
        go_ret2
        exact ⟨rfl, Below.refl _ _⟩
      · have e : wdE (H : Int) l i n = 40 := by unfold wdE; rw [if_neg (by omega)]
        rw [e]
        have hn : n < 0 ∨ 281474976710656 < n := by omega
        clear e hb hh
        go_enter Try.func10, Try.ntmps10
        go_wp2_with (first | (go_at_call 18; refine (isHeight_yes H _ hH).mono ?_; rintro r w' ⟨rfl, rfl⟩) | (go_at_call 23; refine (isSize_no n _ hn).mono ?_; rintro r w' ⟨rfl, rfl⟩))
        go_ret2
        exact ⟨rfl, Below.refl _ _⟩

set_option maxHeartbeats 1000000 in
theorem over_any (h l n : Nat) (w : World) (hh : isH h) (hn : n ≤ 281474976710656) (hl : l ≤ 9223372036854775807) :
    Calls Try.prog 24 #[.int .i64 (h : Int), .int .i64 (l : Int), .int .i64 (n : Int)] w fun r w' => r = .returned (.int .i64 (tOv h l n : Nat)) ∧ w' = w := by
  obtain ⟨h1, h8⟩ := hh.ints
  go_enter Try.func24, Try.ntmps24
  go_wp2_with fail
  go_loopw [2, 7] (fun x k wr => ∃ d j : Nat, x = .int .i64 (d : Int) ∧ k = .int .i64 (j : Int) ∧ j ≤ l ∧ d ≤ 281474976710656 ∧ Hid (tOv h j n = d) ∧ wr = w) (fun _ k _ => l - (intOf k).toNat)
  case atStart => exact ⟨n, 0, rfl, rfl, Nat.zero_le _, hn, hide (tOv_zero h n), rfl⟩
  case round =>
    obtain ⟨d, j, rfl, rfl, hj, hd, HD, rfl⟩ := hrel
    by_cases hc : j < l
    · by_cases hd0 : 0 < d
      · have c1 : (j : Int) < (l : Int) := by omega
        have c2 : (d : Int) > 0 := by omega
        obtain ⟨q, hq⟩ : ∃ q, d / 2 ^ h = q := ⟨_, rfl⟩
        have hq2 : (d : Int) / 2 ^ h = (q : Int) := by rw [pow_int, hq]
        have HQ : Hid (tOv h (j + 1) n = q) := hide (by rw [tOv_succ, HD.out, hq])
        have hqd : q ≤ d := by rw [← hq]; exact Nat.div_le_self _ _
        have hj1 : wrap64 ((j : Int) + 1) = ((j + 1 : Nat) : Int) := by unfold wrap64; omega
        clear hq
        go_wp2
        go_roundw
        case rel => exact ⟨q, j + 1, rfl, rfl, hc, by omega, HQ, by first | rfl | trivial⟩
        case measure => simp only [intOf]; omega
      · have e : tOv h l n = 0 := by
          have h0 : tOv h j n = 0 := by rw [HD.out]; omega
          clear HD
          obtain ⟨k, rfl⟩ : ∃ k, l = j + k := ⟨l - j, by omega⟩
          unfold tOv at h0 ⊢
          rw [Nat.mul_add, Nat.pow_add, ← Nat.div_div_eq_div_mul, h0, Nat.zero_div]
        have c1 : (j : Int) < (l : Int) := by omega
        have d0 : d = 0 := by omega
        subst d0
        have HE := hide e
        clear e HD
        go_wp2
        go_ret
        rw [HE.out]
        exact ⟨rfl, rfl⟩
    · have e : j = l := by omega
      subst e
      go_wp2
      go_ret
      rw [HD.out]
      exact ⟨rfl, rfl⟩
set_option maxHeartbeats 1000000 in
theorem widthR_ok (h l i n : Nat) (w : World) (hh : isH h) (hn : n ≤ 281474976710656) (hl : l ≤ 9223372036854775807) (hi : i ≤ 9223372036854775807) :
    Calls Try.prog 11 #[.int .i64 (h : Int), .int .i64 (l : Int), .int .i64 (i : Int), .int .i64 (n : Int)] w fun r w' => r = .returned (.tuple #[.int .i64 (tW h l i n : Nat), .int .i64 0]) ∧ w' = w := by
  obtain ⟨h1, h8⟩ := hh.ints
  have hn' : (n : Int) ≤ 281474976710656 := by omega
  have HH := hide hh
  have l0 : ¬ (l : Int) < 0 := by omega
  have i0 : ¬ (i : Int) < 0 := by omega
  obtain ⟨P, hP⟩ : ∃ P, 2 ^ h = P := ⟨_, rfl⟩
  obtain ⟨_, _, p3, p4⟩ := pow_w hP hh
  have HP := hide hP
  have ho := fun v => over_any h l n v hh hn hl
  have hD := Nat.le_trans (tOv_le h l n) hn
  by_cases hix : tOv h l n / P < i
  · have e : tW h l i n = 0 := tW_past (by rw [hP]; exact hix)
    rw [e]
    generalize tOv h l n = D at *
    have HO := hide ho
    have f1 : (D : Int) / (P : Int) = ((D / P : Nat) : Int) := by rw [Int.natCast_ediv]
    have c2 : ((D / P : Nat) : Int) < (i : Int) := by omega
    have hE : ((D / P : Nat) : Int) ≤ 281474976710656 := by have := Nat.div_le_self D P; omega
    generalize D / P = E at *
    clear e hix hP hh ho
    go_enter Try.func11, Try.ntmps11
    go_wp2_with (first | (go_at_call 20; refine (heightR_yes h _ HH.out).mono ?_; rintro r w' ⟨rfl, rfl⟩) | (go_at_call 24; refine (HO.out _).mono ?_; rintro r w' ⟨rfl, rfl⟩) | (go_at_call 22; refine (full_any h P _ HH.out HP.out).mono ?_; rintro r w' ⟨rfl, rfl⟩))
    go_ret2
    exact ⟨rfl, rfl⟩
  · have hle : i * P ≤ tOv h l n := Nat.le_trans (Nat.mul_le_mul_right P (by omega)) (Nat.div_mul_le_self _ _)
    rw [tW_eq (D := tOv h l n) (X := i * P) hP rfl rfl]
    generalize tOv h l n = D at *
    have HO := hide ho
    have f1 : (D : Int) / (P : Int) = ((D / P : Nat) : Int) := by rw [Int.natCast_ediv]
    have c2 : ¬ ((D / P : Nat) : Int) < (i : Int) := by omega
    have hE : ((D / P : Nat) : Int) ≤ 281474976710656 := by have := Nat.div_le_self D P; omega
    generalize D / P = E at *
    have f2 : (i : Int) * (P : Int) = ((i * P : Nat) : Int) := by rw [Int.natCast_mul]
    generalize i * P = X at *
    clear hix hP hh ho
    by_cases hm : P < D - X
    · have c3 : (P : Int) < (D : Int) - (X : Int) := by omega
      have e : min (D - X) P = P := by omega
      rw [e]
      clear e hm
      go_enter Try.func11, Try.ntmps11
      go_wp2_with (first | (go_at_call 20; refine (heightR_yes h _ HH.out).mono ?_; rintro r w' ⟨rfl, rfl⟩) | (go_at_call 24; refine (HO.out _).mono ?_; rintro r w' ⟨rfl, rfl⟩) | (go_at_call 22; refine (full_any h P _ HH.out HP.out).mono ?_; rintro r w' ⟨rfl, rfl⟩))
      go_ret2
      exact ⟨rfl, rfl⟩
    · have c3 : ¬ (P : Int) < (D : Int) - (X : Int) := by omega
      have e : ((min (D - X) P : Nat) : Int) = (D : Int) - (X : Int) := by omega
      rw [e]
      clear e hm
      go_enter Try.func11, Try.ntmps11
      go_wp2_with (first | (go_at_call 20; refine (heightR_yes h _ HH.out).mono ?_; rintro r w' ⟨rfl, rfl⟩) | (go_at_call 24; refine (HO.out _).mono ?_; rintro r w' ⟨rfl, rfl⟩) | (go_at_call 22; refine (full_any h P _ HH.out HP.out).mono ?_; rintro r w' ⟨rfl, rfl⟩))
      go_ret2
      exact ⟨rfl, rfl⟩
set_option maxHeartbeats 1000000 in
theorem widthR_bad (h l i n : Int) (w : World) (hb : (h < 1 ∨ 8 < h ∨ l < 0 ∨ i < 0) ∨ n < 0 ∨ 281474976710656 < n) :
    Calls Try.prog 11 #[.int .i64 h, .int .i64 l, .int .i64 i, .int .i64 n] w fun r w' => r = .returned (.tuple #[.int .i64 0, .int .i64 (wdE h l i n)]) ∧ Below w.heap.size w w' := by
  by_cases hh : h < 1 ∨ 8 < h
  · have e : wdE h l i n = 2 := by unfold wdE; rw [if_pos (by omega)]
    rw [e]
    clear e hb
    go_enter Try.func11, Try.ntmps11
    go_wp2_with (go_at_call 20; refine (heightR_no h _ hh).mono ?_; rintro r w' ⟨rfl, rfl⟩)
    go_ret2
    exact ⟨rfl, Below.refl _ _⟩
  · obtain ⟨H, rfl⟩ : ∃ H : Nat, h = (H : Int) := ⟨h.toNat, by omega⟩
    have hH : isH H := ⟨by omega, by omega⟩
    by_cases hl : l < 0
    · have e : wdE (H : Int) l i n = 2 := by unfold wdE; rw [if_pos (by omega)]
      rw [e]
      clear e hb hh
      go_enter Try.func11, Try.ntmps11
      go_wp2_with (go_at_call 20; refine (heightR_yes H _ hH).mono ?_; rintro r w' ⟨rfl, rfl⟩)
      go_ret2
      exact ⟨rfl, Below.refl _ _⟩
    · by_cases hi : i < 0
      · have e : wdE (H : Int) l i n = 2 := by unfold wdE; rw [if_pos (by omega)]
        rw [e]
        clear e hb hh
        go_enter Try.func11, Try.ntmps11
        go_wp2_with (go_at_call 20; refine (heightR_yes H _ hH).mono ?_; rintro r w' ⟨rfl, rfl⟩)
        go_ret2
        exact ⟨rfl, Below.refl _ _⟩
      · have e : wdE (H : Int) l i n = 40 := by unfold wdE; rw [if_neg (by omega)]
        rw [e]
        by_cases hn : n < 0
        · clear e hb hh
          go_enter Try.func11, Try.ntmps11
          go_wp2_with (go_at_call 20; refine (heightR_yes H _ hH).mono ?_; rintro r w' ⟨rfl, rfl⟩)
          go_ret2
          exact ⟨rfl, Below.refl _ _⟩
        · have hn2 : n > 281474976710656 := by omega
          clear e hb hh
          go_enter Try.func11, Try.ntmps11
          go_wp2_with (go_at_call 20; refine (heightR_yes H _ hH).mono ?_; rintro r w' ⟨rfl, rfl⟩)
          go_ret2
          exact ⟨rfl, Below.refl _ _⟩

/-- How many levels there are. -/
def lvE (h n : Int) : Int := if h < 1 ∨ 8 < h then 2 else 40
set_option maxHeartbeats 1000000 in
theorem levels_ok (h n : Nat) (w : World) (hh : isH h) (hn : n ≤ 281474976710656) :
    Calls Try.prog 12 #[.int .i64 (h : Int), .int .i64 (n : Int)] w fun r w' => r = .returned (.tuple #[.int .i64 (tLv h n : Nat), .int .i64 0]) ∧ w' = w := by
  obtain ⟨h1, h8⟩ := hh.ints
  have hn' : (n : Int) ≤ 281474976710656 := by omega
  have hb : Lib.bitLen n ≤ 49 := bl_le n 49 (by omega) (by decide)
  obtain ⟨b, HB⟩ : ∃ b, Hid (Lib.bitLen n = b) := ⟨_, hide rfl⟩
  have HL : Hid (∀ v : World, Calls Try.prog 25 #[.int .u64 (n : Int)] v fun r w' => r = .returned (.int .i64 (b : Int)) ∧ w' = v) := hide fun v => by
    have := len_any (n : Int) v (by omega) (by omega)
    rwa [Int.toNat_natCast, HB.out] at this
  rw [HB.out] at hb
  have hl : tLv h n = (b + h - 1) / h := by unfold tLv; rw [HB.out]
  rw [hl]
  have hb' : (b : Int) ≤ 49 := by omega
  have e1 : (((b + h - 1) / h : Nat) : Int) = ((b : Int) + (h : Int) - 1) / (h : Int) := by
    rw [Int.natCast_ediv]
    congr 1
    have := hh.1
    omega
  have HE := hide e1
  have HH := hide hh
  clear hb hl HB hh e1
  go_enter Try.func12, Try.ntmps12
  go_wp2_with (first | (go_at_call 18; refine (isHeight_yes h _ HH.out).mono ?_; rintro r w' ⟨rfl, rfl⟩) | (go_at_call 23; refine (isSize_yes n _ hn).mono ?_; rintro r w' ⟨rfl, rfl⟩) | (go_at_call 25; refine (HL.out _).mono ?_; rintro r w' ⟨rfl, rfl⟩))
  go_ret2
  rw [HE.out]
  exact ⟨rfl, rfl⟩
theorem levels_bad (h n : Int) (w : World) (hb : (h < 1 ∨ 8 < h) ∨ n < 0 ∨ 281474976710656 < n) :
    Calls Try.prog 12 #[.int .i64 h, .int .i64 n] w fun r w' => r = .returned (.tuple #[.int .i64 0, .int .i64 (lvE h n)]) ∧ Below w.heap.size w w' := by
  by_cases hh : h < 1 ∨ 8 < h
  · have e : lvE h n = 2 := by unfold lvE; rw [if_pos hh]
    rw [e]
    clear e hb
    go_enter Try.func12, Try.ntmps12
    go_wp2_with (go_at_call 18; refine (isHeight_no h _ hh).mono ?_; rintro r w' ⟨rfl, rfl⟩)
    go_ret2
    exact ⟨rfl, Below.refl _ _⟩
  · obtain ⟨H, rfl⟩ : ∃ H : Nat, h = (H : Int) := ⟨h.toNat, by omega⟩
    have hH : isH H := ⟨by omega, by omega⟩
    have e : lvE (H : Int) n = 40 := by unfold lvE; rw [if_neg hh]
    rw [e]
    have hn : n < 0 ∨ 281474976710656 < n := by omega
    clear e hb hh
    go_enter Try.func12, Try.ntmps12
    go_wp2_with (first | (go_at_call 18; refine (isHeight_yes H _ hH).mono ?_; rintro r w' ⟨rfl, rfl⟩) | (go_at_call 23; refine (isSize_no n _ hn).mono ?_; rintro r w' ⟨rfl, rfl⟩))
    go_ret2
    exact ⟨rfl, Below.refl _ _⟩
set_option maxHeartbeats 1000000 in
theorem levelsR_ok (h n : Nat) (w : World) (hh : isH h) (hn : n ≤ 281474976710656) :
    Calls Try.prog 13 #[.int .i64 (h : Int), .int .i64 (n : Int)] w fun r w' => r = .returned (.tuple #[.int .i64 (tLv h n : Nat), .int .i64 0]) ∧ w' = w := by
  obtain ⟨h1, h8⟩ := hh.ints
  have hn' : (n : Int) ≤ 281474976710656 := by omega
  have hle := tLv_le hh hn
  have htop := tLv_top hh hn
  have hbel := fun l => tLv_below (l := l) hh hn
  generalize tLv h n = L at *
  have HT := hide htop
  have HB := hide hbel
  have HH := hide hh
  clear htop hbel hh
  go_enter Try.func13, Try.ntmps13
  go_wp2_with (first | (go_at_call 20; refine (heightR_yes h _ HH.out).mono ?_; rintro r w' ⟨rfl, rfl⟩))
  go_loopw [6] (fun k wr => ∃ j : Nat, k = .int .i64 (j : Int) ∧ j ≤ L ∧ wr = w') (fun k _ => L - (intOf k).toNat)
  case atStart => exact ⟨0, rfl, Nat.zero_le _, rfl⟩
  case round =>
    obtain ⟨j, rfl, hj, rfl⟩ := hrel
    obtain ⟨D, hD⟩ : ∃ D, tOv h j n = D := ⟨_, rfl⟩
    have HO := hide (over_any h j n wr HH.out hn (by omega))
    rw [hD] at HO
    have hDle : D ≤ 281474976710656 := by rw [← hD]; exact Nat.le_trans (tOv_le h j n) hn
    by_cases hc : j < L
    · have c1 : (D : Int) > 0 := by have := HB.out j hc; rw [hD] at this; omega
      clear hD
      have hj1 : wrap64 ((j : Int) + 1) = ((j + 1 : Nat) : Int) := by unfold wrap64; omega
      go_wp2_with (go_at_call 24; refine (HO.out).mono ?_; rintro r w' ⟨rfl, rfl⟩)
      go_roundw
      case rel => exact ⟨j + 1, rfl, hc, by first | rfl | trivial⟩
      case measure => simp only [intOf]; omega
    · obtain rfl : j = L := by omega
      obtain rfl : D = 0 := by rw [← hD]; exact HT.out
      clear hD
      go_wp2_with (go_at_call 24; refine (HO.out).mono ?_; rintro r w' ⟨rfl, rfl⟩)
      go_ret2
      exact ⟨rfl, rfl⟩
theorem levelsR_bad (h n : Int) (w : World) (hb : (h < 1 ∨ 8 < h) ∨ n < 0 ∨ 281474976710656 < n) :
    Calls Try.prog 13 #[.int .i64 h, .int .i64 n] w fun r w' => r = .returned (.tuple #[.int .i64 0, .int .i64 (lvE h n)]) ∧ Below w.heap.size w w' := by
  by_cases hh : h < 1 ∨ 8 < h
  · have e : lvE h n = 2 := by unfold lvE; rw [if_pos hh]
    rw [e]
    clear e hb
    go_enter Try.func13, Try.ntmps13
    go_wp2_with (go_at_call 20; refine (heightR_no h _ hh).mono ?_; rintro r w' ⟨rfl, rfl⟩)
    go_ret2
    exact ⟨rfl, Below.refl _ _⟩
  · obtain ⟨H, rfl⟩ : ∃ H : Nat, h = (H : Int) := ⟨h.toNat, by omega⟩
    have hH : isH H := ⟨by omega, by omega⟩
    have e : lvE (H : Int) n = 40 := by unfold lvE; rw [if_neg hh]
    rw [e]
    by_cases hn : n < 0
    · clear e hb hh
      go_enter Try.func13, Try.ntmps13
      go_wp2_with (go_at_call 20; refine (heightR_yes H _ hH).mono ?_; rintro r w' ⟨rfl, rfl⟩)
      go_ret2
      exact ⟨rfl, Below.refl _ _⟩
    · have hn2 : n > 281474976710656 := by omega
      clear e hb hh
      go_enter Try.func13, Try.ntmps13
      go_wp2_with (go_at_call 20; refine (heightR_yes H _ hH).mono ?_; rintro r w' ⟨rfl, rfl⟩)
      go_ret2
      exact ⟨rfl, Below.refl _ _⟩

end Go.Proofs.Ytnlpgkfmjlljdaa
