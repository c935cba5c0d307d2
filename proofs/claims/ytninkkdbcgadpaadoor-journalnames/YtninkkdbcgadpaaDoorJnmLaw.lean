/-
  The walk of JournalNames.
-/
import Derived.Test.YtninkkdbcgadpaaDoorJlb
import Derived.Test.YtninkkdbcgadpaaDoorJnr
namespace Go.Proofs.YtninkkdbcgadpaaDoor
open Go.RowKit
set_option linter.unusedVariables false

theorem names13_any (w : World) : Calls Tryd.prog 6 #[] w fun e w' => e = .returned (.bool true) ∧ w' = w := by
  go_enter Tryd.func6, Tryd.ntmps6
  go_wp2
  go_ret
  exact ⟨rfl, rfl⟩
set_option maxHeartbeats 400000 in
theorem jnames_walk (g : Int) (w : World) (hw : (Lit.int .i64 g).wf = true) (ht : PT w) : Calls Tryd.prog 3 #[.int .i64 g] w fun e w' => e = .returned (.bool true) ∧ Below w.heap.size w w' := by
  by_cases h : 1 ≤ g ∧ g ≤ 2147483647
  · obtain ⟨n, rfl⟩ : ∃ n : Nat, g = (n : Int) := ⟨g.toNat, by omega⟩
    have h1 : 1 ≤ n := by omega
    have h2 : n ≤ 2147483647 := by omega
    have HN := hide (Name_ok n w h1 h2 ht)
    have HR := hide (fun V => nameR_ok n V h1 h2)
    obtain ⟨S, HS⟩ : ∃ S, Hid (jN n = S) := ⟨_, hide rfl⟩
    rw [HS.out] at HN HR
    clear h h1 h2 HS hw ht
    go_enter Tryd.func3, Tryd.ntmps3
    go_wp2_with fail
    refine HN.out.mono ?_
    rintro e w1 ⟨rfl, hb1⟩
    go_wp2_with fail
    refine (HR.out _).mono ?_
    rintro e w2 ⟨rfl, rfl⟩
    go_wp2_with (go_at_call 6; refine (names13_any _).mono ?_; rintro e w2 ⟨rfl, rfl⟩)
    go_ret
    exact ⟨rfl, hb1⟩
  · have HN := hide (Name_bad g w (by omega))
    have HR := hide (fun V => nameR_bad g V (by omega))
    clear h hw ht
    go_enter Tryd.func3, Tryd.ntmps3
    go_wp2_with fail
    refine HN.out.mono ?_
    rintro e w1 ⟨rfl, rfl⟩
    go_wp2_with fail
    refine (HR.out _).mono ?_
    rintro e w2 ⟨rfl, rfl⟩
    go_wp2_with (go_at_call 6; refine (names13_any _).mono ?_; rintro e w2 ⟨rfl, rfl⟩)
    go_ret
    exact ⟨rfl, Below.refl _ _⟩

end Go.Proofs.YtninkkdbcgadpaaDoor
