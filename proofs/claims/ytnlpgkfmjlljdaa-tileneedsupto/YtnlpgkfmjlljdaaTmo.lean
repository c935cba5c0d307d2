/-
  One tile's width written over in a slice of tiles; the last loop of Need as lists.
-/
import Derived.Test.YtnlpgkfmjlljdaaTmn
namespace Go.Proofs.Ytnlpgkfmjlljdaa
open Go.RowKit
set_option linter.unusedVariables false

theorem split4 {cs : List Value} {q : Nat} {a b c : Value} (h0 : cs[q]? = some a) (h1 : cs[q + 1]? = some b) (h2 : cs[q + 2]? = some c) (hl : q + 4 ≤ cs.length) : ∃ d, cs = cs.take q ++ (a :: b :: c :: d :: cs.drop (q + 4)) := by
  have l0 : q < cs.length := by omega
  have l1 : q + 1 < cs.length := by omega
  have l2 : q + 2 < cs.length := by omega
  have l3 : q + 3 < cs.length := by omega
  refine ⟨cs[q + 3], ?_⟩
  rw [List.getElem?_eq_getElem l0] at h0
  rw [List.getElem?_eq_getElem l1] at h1
  rw [List.getElem?_eq_getElem l2] at h2
  have e0 := List.drop_eq_getElem_cons l0
  have e1 := List.drop_eq_getElem_cons l1
  have e2 := List.drop_eq_getElem_cons l2
  have e3 := List.drop_eq_getElem_cons l3
  rw [Option.some.inj h0] at e0
  rw [Option.some.inj h1] at e1
  rw [Option.some.inj h2] at e2
  rw [show q + 1 + 1 = q + 2 by omega] at e1
  rw [show q + 2 + 1 = q + 3 by omega] at e2
  rw [show q + 3 + 1 = q + 4 by omega] at e3
  rw [← e3, ← e2, ← e1, ← e0, List.take_append_drop]
theorem spl_width {cs : List Value} {q : Nat} {a b c e : Value} (h0 : cs[q]? = some a) (h1 : cs[q + 1]? = some b) (h2 : cs[q + 2]? = some c) (hl : q + 4 ≤ cs.length) : cs.set (q + 3) e = spl cs [a, b, c, e] q := by
  obtain ⟨d, hd⟩ := split4 h0 h1 h2 hl
  have hq : (cs.take q).length = q := by rw [List.length_take]; omega
  unfold spl
  rw [show q + [a, b, c, e].length = q + 4 from rfl]
  conv => lhs; rw [hd]
  rw [List.set_append_right _ _ (by rw [hq]; omega), hq, show q + 3 - q = 3 by omega]
  simp
/-- The list when the first k widths are put. -/
def ncur (h : Nat) (ts : List Tl) (m : List ((Int × Int) × Int)) (k : Nat) : List Tl := (m.take k).map (mT h) ++ ts.drop k
theorem ncur_zero (h : Nat) (ts : List Tl) (m : List ((Int × Int) × Int)) : ncur h ts m 0 = ts := by simp [ncur]
theorem ncur_all {h : Nat} {ts : List Tl} {m : List ((Int × Int) × Int)} (hl : ts.length = m.length) : ncur h ts m ts.length = m.map (mT h) := by
  unfold ncur
  rw [List.drop_of_length_le (Nat.le_refl _), List.append_nil, List.take_of_length_le (by omega)]
theorem ncur_len {h : Nat} {ts : List Tl} {m : List ((Int × Int) × Int)} (hl : ts.length = m.length) {k : Nat} (hk : k ≤ ts.length) : (ncur h ts m k).length = ts.length := by
  unfold ncur
  rw [List.length_append, List.length_map, List.length_take, List.length_drop]
  omega
theorem ncur_at {h : Nat} {ts : List Tl} {m : List ((Int × Int) × Int)} (hs : sameP h ts m) {k : Nat} (hk : k < ts.length) : ∃ (x : (Int × Int) × Int) (w0 : Int), m[k]? = some x ∧ (ncur h ts m k)[k]? = some ((h : Int), x.1.1, x.1.2, w0) ∧ ncur h ts m (k + 1) = (ncur h ts m k).set k (mT h x) := by
  have hl : ts.length = m.length := by
    have := congrArg List.length hs
    simpa using this
  have hkm : k < m.length := by omega
  have h1 : ts[k]? = some ts[k] := List.getElem?_eq_getElem hk
  have h2 : m[k]? = some m[k] := List.getElem?_eq_getElem hkm
  have h3 : (ts.map (fun t => (t.1, t.2.1, t.2.2.1)))[k]? = (m.map (fun x => ((h : Int), x.1.1, x.1.2)))[k]? := by
    have := hs
    unfold sameP at this
    rw [this]
  rw [List.getElem?_map, List.getElem?_map, h1, h2] at h3
  have h4 := Option.some.inj h3
  simp only [Prod.mk.injEq] at h4
  have hln : ((m.take k).map (mT h)).length = k := by rw [List.length_map, List.length_take]; omega
  have hdr : ts.drop k = ts[k] :: ts.drop (k + 1) := List.drop_eq_getElem_cons hk
  refine ⟨m[k], ts[k].2.2.2, h2, ?_, ?_⟩
  · unfold ncur
    rw [List.getElem?_append_right (by omega), hln, Nat.sub_self, hdr]
    show some ts[k] = _
    rw [← h4.1, ← h4.2.1, ← h4.2.2]
  · unfold ncur
    rw [List.set_append_right _ _ (by omega), hln, Nat.sub_self, hdr, List.set_cons_zero, List.take_add_one, h2, List.map_append, List.append_assoc]
    rfl

end Go.Proofs.Ytnlpgkfmjlljdaa
