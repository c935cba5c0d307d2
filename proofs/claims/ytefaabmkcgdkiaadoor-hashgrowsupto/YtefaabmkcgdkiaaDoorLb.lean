/-
  What hash.Load refuses by its length alone, or by the number that it bears.
-/
import Derived.Test.YtefaabmkcgdkiaaDoorLd
namespace Go.Proofs.YtefaabmkcgdkiaaDoor
open Go.RowKit
set_option linter.unusedVariables false

set_option maxHeartbeats 1000000 in
theorem load_short (a : Option Addr) (len cap : Nat) (w : World) (h40 : len < 40) :
    Calls Tryd.prog 17 #[.slice a len cap] w fun e w' => e = .returned (.tuple #[.pointer none, .int .i64 20]) ∧ w = w' := by
  have c1 : (len : Int) < 40 := by omega
  go_enter Tryd.func17, Tryd.ntmps17
  go_wp2
  go_ret2
  exact ⟨rfl, rfl⟩

set_option maxRecDepth 100000 in
set_option maxHeartbeats 2000000 in
theorem load_bad (a : Option Addr) (len cap : Nat) (xs : List Int) (n : Nat) (w : World) (hs : Sl w a len cap xs) (h40 : 40 ≤ len) (hn : ldN xs = (n : Int)) (hn64 : n < 18446744073709551616) (hbad : 2305843009213693951 < n ∨ len - 40 ≠ n % 64) :
    Calls Tryd.prog 17 #[.slice a len cap] w fun e w' => e = .returned (.tuple #[.pointer none, .int .i64 20]) ∧ ∃ q, w' = w.drewN q := by
  have hr := hs.hreach
  obtain ⟨a2, hsl2, hs2, _⟩ := slice_from hs 32 32 rfl (by omega)
  have S2 := hide hs2
  have HN := hide hn
  clear hs hs2 hn
  have c1 : ¬ ((len : Int) < 40) := by omega
  by_cases hb : 2305843009213693951 < n
  · have c2 : decide ((2305843009213693951 : Int) < (n : Int)) = true := by simp; omega
    clear hbad
    go_enter Tryd.func17, Tryd.ntmps17
    go_wp2_with fail
    refine (length_any _ _ _ _ _ S2.out (by omega)).mono ?_
    rintro e w1 ⟨rfl, q, rfl⟩
    rw [show beVal ((xs.drop 32).take 8) = (n : Int) from HN.out]
    go_wp2
    go_ret2
    exact ⟨rfl, q, rfl⟩
  · have c2 : decide ((2305843009213693951 : Int) < (n : Int)) = false := by simp; omega
    have c3 : ((len : Int) - 40 != (n : Int) % 64) = true := by simp; omega
    clear hbad
    go_enter Tryd.func17, Tryd.ntmps17
    go_wp2_with fail
    refine (length_any _ _ _ _ _ S2.out (by omega)).mono ?_
    rintro e w1 ⟨rfl, q, rfl⟩
    rw [show beVal ((xs.drop 32).take 8) = (n : Int) from HN.out]
    go_wp2
    go_ret2
    exact ⟨rfl, q, rfl⟩

end Go.Proofs.YtefaabmkcgdkiaaDoor
