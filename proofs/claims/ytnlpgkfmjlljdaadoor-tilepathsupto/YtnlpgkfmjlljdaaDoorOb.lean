/-
  Contracts of octet's functions: room, number, Uint64, Digest; widened, putNumber, PutUint64, PutDigest.
-/
import Derived.Test.YtnlpgkfmjlljdaaDoorNm
import Derived.Test.YtnlpgkfmjlljdaaDoorSc
import Derived.Test.YtnlpgkfmjlljdaaDoorTd
import Derived.Deep.RegionLaw
namespace Go.Proofs.YtnlpgkfmjlljdaaDoor
open Go.RowKit
set_option linter.unusedVariables false

set_option maxHeartbeats 400000 in
theorem room_any (a : Option Addr) (len cap : Nat) (p : Int) (n : Nat) (w : World) (hl : len ≤ 140737488355328) (hn : n ≤ 32) :
    Calls Tryd.prog 60 #[.slice a len cap, .int .i64 p, .int .i64 n] w fun e w' => e = .returned (.int .i64 (rdE len p n)) ∧ w = w' := by
  by_cases h : p < 0
  · have e : rdE len p n = 2 := by simp [rdE, h]
    rw [e]
    go_enter Tryd.func60, Tryd.ntmps60
    go_wp2
    go_ret
    exact ⟨rfl, rfl⟩
  by_cases h' : (len : Int) < p
  · have e : rdE len p n = 2 := by simp [rdE, h']
    rw [e]
    clear e
    go_enter Tryd.func60, Tryd.ntmps60
    go_wp2
    go_ret
    exact ⟨rfl, rfl⟩
  by_cases h2 : (len : Int) - p < n
  · have e : rdE len p n = 10 := by simp [rdE, h, h', h2]
    rw [e]
    clear e
    go_enter Tryd.func60, Tryd.ntmps60
    go_wp2
    go_ret
    exact ⟨rfl, rfl⟩
  · have e : rdE len p n = 0 := by simp [rdE, h, h', h2]
    rw [e]
    clear e
    go_enter Tryd.func60, Tryd.ntmps60
    go_wp2
    go_ret
    exact ⟨rfl, rfl⟩

theorem spl_zer (ys : List Int) (n m : Nat) (h : ys.length = m) : spl (u8s (zer (m + n))) (u8s (ys.take m)) 0 = u8s (ys ++ zer n) := by
  rw [spl_u8, ← h, List.take_length]
  congr 1
  simp [splB, zer]

end Go.Proofs.YtnlpgkfmjlljdaaDoor
