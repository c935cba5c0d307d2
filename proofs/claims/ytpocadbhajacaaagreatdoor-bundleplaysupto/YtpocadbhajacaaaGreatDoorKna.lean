/-
  Disks that no call made: what each call answers.
-/
import Derived.Test.YtpocadbhajacaaaGreatDoorMe
import Derived.Test.YtpocadbhajacaaaGreatDoorNw
namespace Go.Proofs.YtpocadbhajacaaaGreatDoor
open Go.RowKit
set_option linter.unusedVariables false

/-- A disk that no call made: none, or one whose sector is 0. -/
def Nob (w : World) (p : Option Addr) : Prop := p = none ∨ ∃ g, p = some ⟨g, 0, none⟩ ∧ w.cell? ⟨g, 0, none⟩ = some (.int .i64 0)
theorem Nob.below {w w' : World} {p : Option Addr} (h : Nob w p) (hb : Below w.heap.size w w') : Nob w' p := by
  rcases h with rfl | ⟨g, rfl, h⟩
  · exact .inl rfl
  · exact .inr ⟨g, rfl, cell_kept h hb⟩

theorem made_ok (g : Nat) (s : Int) (w : World) (h : w.cell? ⟨g, 0, none⟩ = some (.int .i64 s)) (hs : 0 < s) : Calls Tryz.prog 55 #[.pointer (some ⟨g, 0, none⟩)] w fun e w' => e = .returned (.bool true) ∧ w' = w := by
  go_enter Tryz.func55, Tryz.ntmps55
  go_wp2
  go_ret
  exact ⟨rfl, rfl⟩
/-- What may be a name. -/
def nmB (n : ByteArray) : Bool := decide (1 ≤ n.size) && decide (n.size ≤ 128)
theorem isName_any (n : ByteArray) (w : World) : Calls Tryz.prog 86 #[.string n] w fun e w' => e = .returned (.bool (nmB n)) ∧ w' = w := by
  unfold nmB
  by_cases h1 : 1 ≤ n.size
  · by_cases h2 : n.size ≤ 128
    · go_enter Tryz.func86, Tryz.ntmps86
      go_wp2
      go_ret
      exact ⟨by simp [h1, h2]; omega, rfl⟩
    · go_enter Tryz.func86, Tryz.ntmps86
      go_wp2
      go_ret
      exact ⟨by simp [h1, h2]; omega, rfl⟩
  · go_enter Tryz.func86, Tryz.ntmps86
    go_wp2
    go_ret
    exact ⟨by simp, rfl⟩

section
variable (p : Option Addr) (w : World) (h : Nob w p)
include h
end
theorem list_any (p : Option Addr) (w : World) : Calls Tryz.prog 51 #[.pointer p] w fun e w' => e = .returned (.func (.func 79) #[] #[.pointer (some ⟨w.heap.size, 0, none⟩)]) ∧ w' = w.alloc (.cells #[.pointer p] 26) := by
  go_enter Tryz.func51, Tryz.ntmps51
  go_wp2
  go_ret
  exact ⟨rfl, rfl⟩

end Go.Proofs.YtpocadbhajacaaaGreatDoor
