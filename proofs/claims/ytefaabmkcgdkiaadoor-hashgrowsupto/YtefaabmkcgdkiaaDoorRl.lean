/-
  The document's Load.
-/
import Derived.Test.YtefaabmkcgdkiaaDoorRn
import Derived.Test.YtefaabmkcgdkiaaDoorLs
namespace Go.Proofs.YtefaabmkcgdkiaaDoor
open Go.RowKit
set_option linter.unusedVariables false

set_option maxRecDepth 100000 in
set_option maxHeartbeats 2000000 in
theorem rload_short (a : Option Addr) (len cap : Nat) (w : World) (h40 : len < 40) :
    Calls Tryd.prog 19 #[.slice a len cap] w fun e w' => e = .returned (.tuple #[.agg (rfC (zer 8) 0 (.slice none 0 0)).toArray, .int .i64 20]) ∧ Below w.heap.size w w' := by
  have c1 : (len : Int) < 40 := by omega
  go_enter Tryd.func19, Tryd.ntmps19
  go_wp2_with (refine step_alloc zRS rfl ?_)
  intro w1 g hg hle hb1
  have HG := hide hg
  clear hg
  go_wp2_with (refine step_storeA wRS (vs := rfC (zer 8) 0 (.slice none 0 0)) rfl rfl (by kernel_rfl) HG.out rfl (One.rf _ _ _ _ _) rfl ?_; intro w3 hg3 hbut3)
  refine bodyPost_ret (results_wide2 rfl wRS _ _ rfl hg3 rfl) rfl ⟨rfl, ?_⟩
  exact hb1.trans (hbut3.below hle)

set_option maxRecDepth 100000 in
set_option maxHeartbeats 2000000 in
theorem rload_bad (a : Option Addr) (len cap : Nat) (xs : List Int) (n : Nat) (w : World) (hs : Sl w a len cap xs) (h40 : 40 ≤ len) (hn : ldN xs = (n : Int)) (hn64 : n < 18446744073709551616) (hbad : 2305843009213693951 < n ∨ len - 40 ≠ n % 64) :
    Calls Tryd.prog 19 #[.slice a len cap] w fun e w' => e = .returned (.tuple #[.agg (rfC (zer 8) 0 (.slice none 0 0)).toArray, .int .i64 20]) ∧ Below w.heap.size w w' := by
  have hr := hs.hreach
  have HR : Hid (rdV xs 32 8 = (n : Int)) := hide (by rw [rdV, if_pos ⟨by omega, by rw [hs.hlen]; omega⟩]; exact hn)
  have S0 := hide hs
  clear hs hn
  have c1 : ¬ ((len : Int) < 40) := by omega
  by_cases hb : 2305843009213693951 < n
  · have c2 : decide ((2305843009213693951 : Int) < (n : Int)) = true := by simp; omega
    clear hbad
    go_enter Tryd.func19, Tryd.ntmps19
    go_wp2_with (refine step_alloc zRS rfl ?_)
    intro w1 g hg hle hb1
    have HG := hide hg
    clear hg
    have S1 := hide (S0.out.below hb1)
    go_wp2_with (first | (go_at_call 46; refine (read_any _ _ _ _ _ 8 _ S1.out (by omega) (by omega)).mono ?_; rintro e w2 ⟨rfl, rfl⟩; rw [HR.out]) | (refine step_storeA wRS (vs := rfC (zer 8) 0 (.slice none 0 0)) rfl rfl (by kernel_rfl) HG.out rfl (One.rf _ _ _ _ _) rfl ?_; intro w3 hg3 hbut3))
    refine bodyPost_ret (results_wide2 rfl wRS _ _ rfl hg3 rfl) rfl ⟨rfl, ?_⟩
    exact hb1.trans (hbut3.below hle)
  · have c2 : decide ((2305843009213693951 : Int) < (n : Int)) = false := by simp; omega
    have c3 : ((len : Int) - 40 != (n : Int) % 64) = true := by simp; omega
    clear hbad
    go_enter Tryd.func19, Tryd.ntmps19
    go_wp2_with (refine step_alloc zRS rfl ?_)
    intro w1 g hg hle hb1
    have HG := hide hg
    clear hg
    have S1 := hide (S0.out.below hb1)
    go_wp2_with (first | (go_at_call 46; refine (read_any _ _ _ _ _ 8 _ S1.out (by omega) (by omega)).mono ?_; rintro e w2 ⟨rfl, rfl⟩; rw [HR.out]) | (refine step_storeA wRS (vs := rfC (zer 8) 0 (.slice none 0 0)) rfl rfl (by kernel_rfl) HG.out rfl (One.rf _ _ _ _ _) rfl ?_; intro w3 hg3 hbut3))
    refine bodyPost_ret (results_wide2 rfl wRS _ _ rfl hg3 rfl) rfl ⟨rfl, ?_⟩
    exact hb1.trans (hbut3.below hle)

end Go.Proofs.YtefaabmkcgdkiaaDoor
