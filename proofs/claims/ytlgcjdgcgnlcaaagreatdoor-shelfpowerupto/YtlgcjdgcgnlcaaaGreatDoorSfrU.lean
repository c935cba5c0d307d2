/-
  A slice of digests that came in, where what is read is of small bulk.
-/
import Derived.Test.YtlgcjdgcgnlcaaaGreatDoorSfrD
namespace Go.Proofs.YtlgcjdgcgnlcaaaGreatDoor
open Go.ChangeShapes Go.WideShapes Go.ChangeAt Go.RowKit
set_option linter.unusedVariables false

theorem bulk_pos {H : Type} (d : DataW H) : 1 ≤ Rows.uptoBulk d := by
  cases d with
  | lit l => cases l <;> simp [Rows.uptoBulk]
  | _ => simp [Rows.uptoBulk]
theorem bulk_len {H : Type} : ∀ ds : List (DataW H), ds.length ≤ Rows.uptoBulkAll ds
  | [] => by simp [Rows.uptoBulkAll]
  | d :: ds => by
    have h1 := bulk_len ds
    have h2 := bulk_pos d
    simp only [Rows.uptoBulkAll, List.length_cons]
    omega
set_option maxRecDepth 100000 in
theorem ds_upto {H : Type} {enc : TypeId × Value → H} {W : World} {base : Nat} {v : Value} {d : DataW H} {p : List MemPlace}
    (hv : Value.okWide Tryz.prog W .any base 63 v) (h : DataW.Trod enc Tryz.prog W 0 (fun _ => true) true 63 v d p) (hm : Rows.uptoBulk d ≤ 1048576) :
    ∃ a len cap xs, v = .slice a len cap ∧ Ds W a len cap xs ∧ cap ≤ 1048576 := by
  obtain ⟨a, len, cap, xs, rfl, hs, hd2⟩ := ds_open hv h
  have hc : cap ≤ 1048576 := by
    rcases hd2 with ⟨_, rfl⟩ | ⟨es, rs, rfl, hl⟩
    · omega
    · have h1 := bulk_len es
      have h2 := bulk_len rs
      simp only [Rows.uptoBulk] at hm
      omega
  exact ⟨a, len, cap, xs, rfl, hs (by omega), hc⟩

end Go.Proofs.YtlgcjdgcgnlcaaaGreatDoor
