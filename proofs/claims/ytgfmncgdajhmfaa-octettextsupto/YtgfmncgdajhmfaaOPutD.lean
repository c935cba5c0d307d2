/-
  octet, ported from round 1 (PutD).
-/
import Derived.Test.YtgfmncgdajhmfaaOPut
namespace Go.Proofs.Ytgfmncgdajhmfaa
open Go.RowKit
set_option linter.unusedVariables false

theorem splice_tail (xs ds : List Int) (len : Nat) (hx : xs.length = len) (hd : ds.length = 32) : splice (xs ++ zer 32) len (ds.take 32) = xs ++ ds := by
  subst hx
  rw [List.take_of_length_le (by omega)]
  simp only [splice, hd, List.take_left]
  rw [List.drop_eq_nil_of_le (by simp [zer])]
  simp

set_option maxHeartbeats 400000 in
theorem spoil_any (g n : Nat) (xs : List Int) (w : World) (hr : Row w g 5 xs) (hx : xs.length = n) (hn : n ≤ 140737488355328) :
    Calls Try.prog 13 #[.slice (some ⟨g, 0, none⟩) n n] w fun e w' => e = .returned (.tuple #[]) ∧ But g w w' := by
  go_enter Try.func13, Try.ntmps13
  go_wp2
  go_loopw [2] (fun i wr => ∃ k : Nat, k ≤ n ∧ i = .int .i64 k ∧ (∃ ys, Row wr g 5 ys ∧ ys.length = n) ∧ But g w wr) (fun i _ => n - (intOf i).toNat)
  case atStart => exact ⟨0, by omega, rfl, ⟨xs, hr, hx⟩, But.refl _ _⟩
  case round =>
    obtain ⟨k, hk, rfl, ⟨ys, hr1, hy⟩, hb1⟩ := hrel
    have HY := hide hy
    clear hy
    by_cases hlt : k < n
    · have hcell := hr1.cell k (by rw [HY.out]; omega)
      have hfree := hr1.free k
      go_wp2
      go_roundw
      case rel => exact ⟨k + 1, by omega, by go_num, ⟨_, hr1.set k _, by rw [List.length_set]; exact HY.out⟩, hb1.trans (But.setCell _ _ _ _)⟩
      case measure => simp [intOf]; omega
    · go_wp2
      go_end0
      exact ⟨rfl, hb1⟩

theorem str_beq (xs : List Int) : ((str xs).toList == (str xs).toList) = true := by simp

end Go.Proofs.Ytgfmncgdajhmfaa
