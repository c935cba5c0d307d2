/-
  The widths of tiles and the numbers of levels, of the program and of the document.
-/
import Derived.Test.YtlgcjdgcgnlcaaaGreatDoorTa
import Derived.Test.YtlgcjdgcgnlcaaaGreatDoorNw
import Derived.Test.YtlgcjdgcgnlcaaaGreatDoorBl
namespace Go.Proofs.YtlgcjdgcgnlcaaaGreatDoor
open Go.RowKit
set_option linter.unusedVariables false

theorem isH.ints {h : Nat} (hh : isH h) : (h : Int) ≥ 1 ∧ (h : Int) ≤ 8 := by obtain ⟨h1, h2⟩ := hh; omega
theorem isHeight_yes (h : Nat) (w : World) (hh : isH h) : Calls Tryz.prog 98 #[.int .i64 (h : Int)] w fun r w' => r = .returned (.bool true) ∧ w' = w := by
  obtain ⟨h1, h8⟩ := hh.ints
  go_enter Tryz.func98, Tryz.ntmps98
  go_wp2
  go_ret
  exact ⟨rfl, rfl⟩
theorem isHeight_no (h : Int) (w : World) (hh : h < 1 ∨ 8 < h) : Calls Tryz.prog 98 #[.int .i64 h] w fun r w' => r = .returned (.bool false) ∧ w' = w := by
  rcases hh with hh | hh
  · have h1 : ¬ h ≥ 1 := by omega
    go_enter Tryz.func98, Tryz.ntmps98
    go_wp2
    go_ret
    exact ⟨rfl, rfl⟩
  · have h1 : h ≥ 1 := by omega
    have h2 : decide (h ≤ 8) = false := by simp; omega
    go_enter Tryz.func98, Tryz.ntmps98
    go_wp2
    go_ret
    exact ⟨rfl, rfl⟩
theorem heightR_yes (h : Nat) (w : World) (hh : isH h) : Calls Tryz.prog 65 #[.int .i64 (h : Int)] w fun r w' => r = .returned (.bool true) ∧ w' = w := by
  obtain ⟨h1, h8⟩ := hh.ints
  go_enter Tryz.func65, Tryz.ntmps65
  go_wp2
  go_ret
  exact ⟨rfl, rfl⟩
theorem heightR_no (h : Int) (w : World) (hh : h < 1 ∨ 8 < h) : Calls Tryz.prog 65 #[.int .i64 h] w fun r w' => r = .returned (.bool false) ∧ w' = w := by
  rcases hh with hh | hh
  · have h1 : ¬ h ≥ 1 := by omega
    go_enter Tryz.func65, Tryz.ntmps65
    go_wp2
    go_ret
    exact ⟨rfl, rfl⟩
  · have h1 : h ≥ 1 := by omega
    have h2 : decide (h ≤ 8) = false := by simp; omega
    go_enter Tryz.func65, Tryz.ntmps65
    go_wp2
    go_ret
    exact ⟨rfl, rfl⟩
theorem isSize_yes (n : Nat) (w : World) (hn : n ≤ 281474976710656) : Calls Tryz.prog 99 #[.int .i64 (n : Int)] w fun r w' => r = .returned (.bool true) ∧ w' = w := by
  have h1 : (n : Int) ≤ 281474976710656 := by omega
  go_enter Tryz.func99, Tryz.ntmps99
  go_wp2
  go_ret
  exact ⟨rfl, rfl⟩
theorem isSize_no (n : Int) (w : World) (hn : n < 0 ∨ 281474976710656 < n) : Calls Tryz.prog 99 #[.int .i64 n] w fun r w' => r = .returned (.bool false) ∧ w' = w := by
  rcases hn with hn | hn
  · have h1 : ¬ n ≥ 0 := by omega
    go_enter Tryz.func99, Tryz.ntmps99
    go_wp2
    go_ret
    exact ⟨rfl, rfl⟩
  · have h1 : n ≥ 0 := by omega
    have h2 : decide (n ≤ 281474976710656) = false := by simp; omega
    go_enter Tryz.func99, Tryz.ntmps99
    go_wp2
    go_ret
    exact ⟨rfl, rfl⟩
theorem full_any (h P : Nat) (w : World) (hh : isH h) (hP : 2 ^ h = P) : Calls Tryz.prog 36 #[.int .i64 (h : Int)] w fun r w' => r = .returned (.int .i64 (P : Int)) ∧ w' = w := by
  obtain ⟨h1, h8⟩ := hh.ints
  have hp := hh.pow
  have HW : Hid (wrap64 (2 ^ h) = (P : Int)) := hide (by
    have e : ((2 : Int) ^ h) = (P : Int) := by rw [← hP]; simp [Int.natCast_pow]
    rw [e]; unfold wrap64; omega)
  clear hP hp hh
  go_enter Tryz.func36, Tryz.ntmps36
  go_wp2
  go_ret
  refine ⟨?_, rfl⟩
  rw [HW.out]
  rfl
theorem below_self (w : World) (n : Nat) : Below w.heap.size w (w.drewN n) := ⟨rfl, rfl, rfl, Nat.le_refl _, fun _ _ => rfl⟩
theorem pow_int (a k : Nat) : (a : Int) / 2 ^ k = ((a / 2 ^ k : Nat) : Int) := by rw [Int.natCast_ediv, Int.natCast_pow]; rfl
theorem quo48 (h : Nat) : (48 : Int) / (h : Int) = ((48 / h : Nat) : Int) := by rw [Int.natCast_ediv]; rfl
/-- What the walk asks of the numbers of a tile in a log. -/
theorem width_facts {h l i n P : Nat} (hP : 2 ^ h = P) (hh : isH h) (hn : n ≤ 281474976710656) (hl : l ≤ 48 / h) (hi : i ≤ tOv h l n / P) :
    ∃ M D X : Nat, (h : Int) * (l : Int) = (M : Int) ∧ M ≤ 48 ∧ (n : Int) / 2 ^ M = (D : Int) ∧ D = tOv h l n ∧ D ≤ 281474976710656 ∧ (i : Int) * 2 ^ h = (X : Int) ∧ X = i * P ∧ X ≤ D ∧ (D : Int) / 2 ^ h = ((D / P : Nat) : Int) ∧ (i : Int) * (P : Int) = (X : Int) ∧ (D : Int) / (P : Int) = ((D / P : Nat) : Int) := by
  have hM := low_of hh hl
  have hle : i * P ≤ tOv h l n := Nat.le_trans (Nat.mul_le_mul_right P hi) (Nat.div_mul_le_self _ _)
  refine ⟨h * l, tOv h l n, i * P, (Int.natCast_mul h l).symm, hM, pow_int n (h * l), rfl, Nat.le_trans (tOv_le h l n) hn, ?_, rfl, hle, ?_, ?_, ?_⟩
  · rw [← hP, Int.natCast_mul, Int.natCast_pow]; rfl
  · rw [pow_int, hP]
  · rw [Int.natCast_mul]
  · rw [Int.natCast_ediv]
theorem w64 (x : Int) (h0 : -9223372036854775808 ≤ x) (h1 : x ≤ 9223372036854775807) : wrap64 x = x := by unfold wrap64; omega
theorem tW_eq {h l i n P D X : Nat} (hP : 2 ^ h = P) (hD : D = tOv h l n) (hX : X = i * P) : tW h l i n = min (D - X) P := by subst hP hD hX; rfl
theorem pow_w {h P : Nat} (hP : 2 ^ h = P) (hh : isH h) : wrap64 (2 ^ h) = (P : Int) ∧ IntKind.i64.wrap (2 ^ h) = (P : Int) ∧ 2 ≤ P ∧ P ≤ 256 := by
  have hp := hh.pow
  have e : ((2 : Int) ^ h) = (P : Int) := by rw [← hP]; simp [Int.natCast_pow]
  rw [hP] at hp
  rw [e]
  refine ⟨by unfold wrap64; omega, by rw [IntKind.wrap_i64]; omega, hp⟩
theorem tW_none {h l i n : Nat} (h0 : tOv h l n = 0) : tW h l i n = 0 := by unfold tW; rw [h0, Nat.zero_sub, Nat.zero_min]
set_option maxHeartbeats 1000000 in
theorem width_ok (h l i n : Nat) (w : World) (hh : isH h) (hn : n ≤ 281474976710656) (hl : l ≤ 9223372036854775807) (hi : i ≤ 9223372036854775807) :
    Calls Tryz.prog 78 #[.int .i64 (h : Int), .int .i64 (l : Int), .int .i64 (i : Int), .int .i64 (n : Int)] w fun r w' => r = .returned (.tuple #[.int .i64 (tW h l i n : Nat), .int .i64 0]) ∧ Below w.heap.size w w' := by
  obtain ⟨h1, h8⟩ := hh.ints
  have hn' : (n : Int) ≤ 281474976710656 := by omega
  have HH := hide hh
  have l0 : ¬ (l : Int) < 0 := by omega
  have i0 : ¬ (i : Int) < 0 := by omega
  obtain ⟨P, hP⟩ : ∃ P, 2 ^ h = P := ⟨_, rfl⟩
  obtain ⟨p1, p2, p3, p4⟩ := pow_w hP hh
  have HP := hide p1
  clear p1 p2
  by_cases hlv : 48 / h < l
  · have e : tW h l i n = 0 := tW_none (tOv_high hn (high_of hh hlv))
    rw [e]
    have c1 : (48 : Int) / (h : Int) < (l : Int) := by rw [quo48]; omega
    clear e hlv hP hh
    go_enter Tryz.func78, Tryz.ntmps78
    go_wp2_with (first | (go_at_call 98; refine (isHeight_yes h _ HH.out).mono ?_; rintro r w' ⟨rfl, rfl⟩) | (go_at_call 99; refine (isSize_yes n _ hn).mono ?_; rintro r w' ⟨rfl, rfl⟩))
    go_ret2
    exact ⟨rfl, Below.refl _ _⟩
  · have hlv' : l ≤ 48 / h := by omega
    have c1 : ¬ (48 : Int) / (h : Int) < (l : Int) := by rw [quo48]; omega
    by_cases hix : tOv h l n / P < i
    · have e : tW h l i n = 0 := tW_past (by rw [hP]; exact hix)
      rw [e]
      obtain ⟨M, D, X, f1, f2, f3, f4, f5, f6, f7, f8, f9, f10, f11⟩ := width_facts (i := 0) hP hh hn hlv' (Nat.zero_le _)
      rw [← f4] at hix
      have c2 : ((D / P : Nat) : Int) < (i : Int) := by omega
      have hM : (M : Int) ≤ 48 := by omega
      have hD : (D : Int) ≤ 281474976710656 := by omega
      clear f4 f7 f6 f8 f10 f11 f2 f5 hP hlv hlv' hix hh e
      generalize D / P = E at *
      go_enter Tryz.func78, Tryz.ntmps78
      go_wp2_with (first | (go_at_call 98; refine (isHeight_yes h _ HH.out).mono ?_; rintro r w' ⟨rfl, rfl⟩) | (go_at_call 99; refine (isSize_yes n _ hn).mono ?_; rintro r w' ⟨rfl, rfl⟩))
      go_ret2
      exact ⟨rfl, Below.refl _ _⟩
    · obtain ⟨M, D, X, f1, f2, f3, f4, f5, f6, f7, f8, f9, f10, f11⟩ := width_facts hP hh hn hlv' (by omega : i ≤ tOv h l n / P)
      rw [tW_eq hP f4 f7]
      have c2 : ¬ ((D / P : Nat) : Int) < (i : Int) := by rw [f4]; omega
      have hM : (M : Int) ≤ 48 := by omega
      have hD : (D : Int) ≤ 281474976710656 := by omega
      have hX : (X : Int) ≤ (D : Int) := by omega
      generalize D / P = E at *
      have hmin : min ((D : Int) - (X : Int)) (P : Int) = ((min (D - X) P : Nat) : Int) := by omega
      have HM := hide hmin
      clear f4 f7 hP hlv hlv' hix hh f2 f5 f8 f10 f11 hmin
      go_enter Tryz.func78, Tryz.ntmps78
      go_wp2_with (first | (go_at_call 98; refine (isHeight_yes h _ HH.out).mono ?_; rintro r w' ⟨rfl, rfl⟩) | (go_at_call 99; refine (isSize_yes n _ hn).mono ?_; rintro r w' ⟨rfl, rfl⟩))
      go_quiet (fail)
      go_wp2
      go_ret2
      refine ⟨?_, below_self _ _⟩
      rw [HP.out, HM.out]
      rfl
/-- What is amiss with the numbers of a tile in a log. -/
def wdE (h l i n : Int) : Int := if h < 1 ∨ 8 < h ∨ l < 0 ∨ i < 0 then 2 else 40
set_option maxHeartbeats 1000000 in
theorem width_bad (h l i n : Int) (w : World) (hb : (h < 1 ∨ 8 < h ∨ l < 0 ∨ i < 0) ∨ n < 0 ∨ 281474976710656 < n) :
    Calls Tryz.prog 78 #[.int .i64 h, .int .i64 l, .int .i64 i, .int .i64 n] w fun r w' => r = .returned (.tuple #[.int .i64 0, .int .i64 (wdE h l i n)]) ∧ Below w.heap.size w w' := by
  by_cases hh : h < 1 ∨ 8 < h
  · have e : wdE h l i n = 2 := by unfold wdE; rw [if_pos (by omega)]
    rw [e]
    clear e hb
    go_enter Tryz.func78, Tryz.ntmps78
    go_wp2_with (go_at_call 98; refine (isHeight_no h _ hh).mono ?_; rintro r w' ⟨rfl, rfl⟩)
    go_ret2
    exact ⟨rfl, Below.refl _ _⟩
  · obtain ⟨H, rfl⟩ : ∃ H : Nat, h = (H : Int) := ⟨h.toNat, by omega⟩
    have hH : isH H := ⟨by omega, by omega⟩
    by_cases hl : l < 0
    · have e : wdE (H : Int) l i n = 2 := by unfold wdE; rw [if_pos (by omega)]
      rw [e]
      clear e hb hh
      go_enter Tryz.func78, Tryz.ntmps78
      go_wp2_with (go_at_call 98; refine (isHeight_yes H _ hH).mono ?_; rintro r w' ⟨rfl, rfl⟩)
      go_ret2
      exact ⟨rfl, Below.refl _ _⟩
    · by_cases hi : i < 0
      · have e : wdE (H : Int) l i n = 2 := by unfold wdE; rw [if_pos (by omega)]
        rw [e]
        clear e hb hh
        go_enter Tryz.func78, Tryz.ntmps78
        go_wp2_with (go_at_call 98; refine (isHeight_yes H _ hH).mono ?_; rintro r w' ⟨rfl, rfl⟩)
        go_ret2
        exact ⟨rfl, Below.refl _ _⟩
      · have e : wdE (H : Int) l i n = 40 := by unfold wdE; rw [if_neg (by omega)]
        rw [e]
        have hn : n < 0 ∨ 281474976710656 < n := by omega
        clear e hb hh
        go_enter Tryz.func78, Tryz.ntmps78
        go_wp2_with (first | (go_at_call 98; refine (isHeight_yes H _ hH).mono ?_; rintro r w' ⟨rfl, rfl⟩) | (go_at_call 99; refine (isSize_no n _ hn).mono ?_; rintro r w' ⟨rfl, rfl⟩))
        go_ret2
        exact ⟨rfl, Below.refl _ _⟩


end Go.Proofs.YtlgcjdgcgnlcaaaGreatDoor
