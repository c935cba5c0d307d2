/-
  octet, ported from round 1 (Upto).
-/
import Derived.Test.YtgfmncgdajhmfaaOFrame
namespace Go.Proofs.Ytgfmncgdajhmfaa
open Go.ChangeShapes Go.WideShapes Go.ChangeAt Go.RowKit
set_option linter.unusedVariables false

theorem bulk_ints {H : Type} (k : IntKind) (zs : List Int) : Rows.uptoBulkAll (H := H) (lits k zs) = zs.length := by
  induction zs with
  | nil => rfl
  | cons z l ih => simp only [lits, List.map_cons, Rows.uptoBulkAll, Rows.uptoBulk, List.length_cons] at ih ⊢; omega

theorem str_upto {H : Type} {s : ByteArray} (h : Rows.uptoBulk (DataW.lit (H := H) (.string s.data.toList)) ≤ 1048576) : s.size ≤ 1048576 := by
  simp only [Rows.uptoBulk] at h
  have e : s.data.toList.length = s.size := by rw [Array.length_toList]; rfl
  omega

theorem sl_upto {H : Type} {enc : TypeId × Value → H} {W : World} {base : Nat} {v : Value} {d : DataW H} {p : List MemPlace}
    (hv : Value.okWide Try.prog W .any base 22 v) (h : DataW.Trod enc Try.prog W 0 (fun _ => true) true 22 v d p) (hm : Rows.uptoBulk d ≤ 1048576) :
    ∃ a len cap xs, v = .slice a len cap ∧ Sl W a len cap xs ∧ cap ≤ 1048576 := by
  obtain ⟨a, len, cap, xs, rfl, hs, hd2⟩ := sl_open hv h
  have hc : cap ≤ 1048576 := by
    rcases hd2 with ⟨_, rfl⟩ | ⟨zs, hz, rfl⟩
    · omega
    · simp only [Rows.uptoBulk, bulk_ints, List.length_take, List.length_drop] at hm
      omega
  exact ⟨a, len, cap, xs, rfl, hs (by omega), hc⟩

end Go.Proofs.Ytgfmncgdajhmfaa
