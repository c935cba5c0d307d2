/-
  What was saved is loaded again: words and length.
-/
import Derived.Test.YtefaabmkcgdkiaaDoorLd
import Derived.Test.YtefaabmkcgdkiaaDoorRf
import Derived.Test.YtefaabmkcgdkiaaDoorSv
namespace Go.Proofs.YtefaabmkcgdkiaaDoor
open Go.RowKit
set_option linter.unusedVariables false

theorem be4 (x : Int) (h : 0 ≤ x ∧ x < 4294967296) : beVal (be x 4) = x := by
  have e : be x 4 = [x / 16777216 % 256, x / 65536 % 256, x / 256 % 256, x / 1 % 256] := rfl
  rw [e]
  simp only [beVal, List.foldl_cons, List.foldl_nil]
  omega
theorem be8 (x : Int) (h : 0 ≤ x ∧ x < 18446744073709551616) : beVal (be x 8) = x := by
  have e : be x 8 = [x / 72057594037927936 % 256, x / 281474976710656 % 256, x / 1099511627776 % 256, x / 4294967296 % 256, x / 16777216 % 256, x / 65536 % 256, x / 256 % 256, x / 1 % 256] := rfl
  rw [e]
  simp only [beVal, List.foldl_cons, List.foldl_nil]
  omega
theorem be_cons (x : Int) (r : List Int) : be x 4 ++ r = x / 16777216 % 256 :: x / 65536 % 256 :: x / 256 % 256 :: x / 1 % 256 :: r := rfl
theorem wordAt_wb (ws r : List Int) (hw : isW ws) (k : Nat) (hk : k < ws.length) : wordAt (wb ws ++ r) k = ws.getD k 0 := by
  have hd : ((wb ws ++ r).drop (4 * k)) = be (ws.getD k 0) 4 ++ (wb (ws.drop (k + 1)) ++ r) := by
    have e : ws = ws.take k ++ (ws.getD k 0 :: ws.drop (k + 1)) := by
      have : ws.drop k = ws.getD k 0 :: ws.drop (k + 1) := by
        rw [List.drop_eq_getElem_cons hk]
        simp [List.getD, hk]
      rw [← this, List.take_append_drop]
    have hl : (wb (ws.take k)).length = 4 * k := by rw [wb_length, List.length_take]; omega
    have e2 : wb ws = wb (ws.take k) ++ (be (ws.getD k 0) 4 ++ wb (ws.drop (k + 1))) := by
      conv => lhs; rw [e]
      simp only [wb, List.flatMap_append, List.flatMap_cons]
    rw [e2, List.append_assoc, ← hl, List.drop_left, List.append_assoc]
  unfold wordAt
  rw [hd, List.take_append_of_le_length (by rw [be_length]; omega), List.take_of_length_le (by rw [be_length]; omega)]
  refine be4 _ ?_
  have := hw ws[k] (List.getElem_mem hk)
  simpa [List.getD, hk] using this
theorem ldW_wb (ws r : List Int) (hw : isW ws) (hl : ws.length = 8) : ldW (wb ws ++ r) = ws := by
  obtain ⟨a, b, c, d, e, f, g, i, rfl⟩ := eight ws hl
  unfold ldW
  rw [wordAt_wb _ r hw 0 (by simp), wordAt_wb _ r hw 1 (by simp), wordAt_wb _ r hw 2 (by simp), wordAt_wb _ r hw 3 (by simp), wordAt_wb _ r hw 4 (by simp), wordAt_wb _ r hw 5 (by simp), wordAt_wb _ r hw 6 (by simp), wordAt_wb _ r hw 7 (by simp)]
  rfl

theorem ldW_sv (h : List Int) (n0 : Nat) (m : List Int) (hh : h.length = 8) (hw : isW h) : ldW (sv h n0 m) = ov h m (bk m) := by
  unfold sv
  rw [List.append_assoc]
  exact ldW_wb _ _ (ov_isW h m hw _) (ov_length h m hh _)
theorem ldN_sv (h : List Int) (n0 : Nat) (m : List Int) (hh : h.length = 8) (hb : n0 + m.length ≤ 2305843009213693951) : ldN (sv h n0 m) = ((n0 + m.length : Nat) : Int) := by
  have hl : (wb (ov h m (bk m))).length = 32 := by rw [wb_length, ov_length h m hh]
  unfold ldN sv
  rw [List.append_assoc, show 32 = (wb (ov h m (bk m))).length from hl.symm, List.drop_left, List.take_append_of_le_length (by rw [be_length]; exact Nat.le_refl _), List.take_of_length_le (by rw [be_length]; exact Nat.le_refl _), be8 _ (by omega)]
theorem drop_sv (h : List Int) (n0 : Nat) (m : List Int) (hh : h.length = 8) : (sv h n0 m).drop 40 = tl m := by
  have hl : (wb (ov h m (bk m)) ++ be ((n0 + m.length : Nat) : Int) 8).length = 40 := by rw [List.length_append, wb_length, ov_length h m hh, be_length]
  unfold sv
  rw [show 40 = (wb (ov h m (bk m)) ++ be ((n0 + m.length : Nat) : Int) 8).length from hl.symm, List.drop_left]

end Go.Proofs.YtefaabmkcgdkiaaDoor
