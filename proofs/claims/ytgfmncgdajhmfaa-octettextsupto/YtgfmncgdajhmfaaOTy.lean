/-
  Unhex of Hex, Hex of Unhex, and the same to the base 64, by the contracts' own words. No program here.
-/
import Derived.Test.YtgfmncgdajhmfaaOTx
namespace Go.Proofs.Ytgfmncgdajhmfaa
open Go.RowKit
set_option linter.unusedVariables false

/-- A text without one letter that fills at its end. -/
def tl1 (S : List UInt8) : List UInt8 := if S.getLast? = some 61 then S.dropLast else S
theorem ba_get (s : ByteArray) (i : Nat) (h : i < s.size) : s.data.toList[i]? = some s[i] := by
  have h' : i < s.data.size := h
  rw [Array.getElem?_toList, Array.getElem?_eq_getElem h']
  rfl
theorem ends_last (s : ByteArray) : ends s = decide (s.data.toList.getLast? = some 61) := by
  have hl : s.data.toList.length = s.size := by simp
  unfold ends
  by_cases h : 0 < s.size
  · rw [dif_pos h, List.getLast?_eq_getElem?, hl, ba_get s (s.size - 1) (by omega)]
    by_cases e : s[s.size - 1] = 61
    · simp [e]
    · simp [e]
  · have : s.data.toList = [] := List.eq_nil_of_length_eq_zero (by omega)
    rw [dif_neg h, this]
    rfl
theorem trim1_list (s : ByteArray) : (trim1 s).data.toList = tl1 s.data.toList := by
  unfold trim1 tl1
  rw [ends_last]
  by_cases h : s.data.toList.getLast? = some 61
  · rw [if_pos (by simpa using h), if_pos h]
    have hl : s.data.toList.length = s.size := by simp
    rw [List.dropLast_eq_take, hl, Lib.extract_data]
    simp
  · rw [if_neg (by simpa using h), if_neg h]
theorem tl1_fill (S : List UInt8) : tl1 (S ++ [61]) = S := by
  unfold tl1
  simp
theorem tl1_keep (D : List UInt8) (h : ∀ c ∈ D, 0 ≤ lv c) : tl1 D = D := by
  unfold tl1
  rw [if_neg]
  intro e
  have hm : (61 : UInt8) ∈ D := List.mem_of_getLast? e
  have := h 61 hm
  rw [lv_61] at this
  omega
theorem tl1_split (S : List UInt8) : ∃ p, p ≤ 1 ∧ S = tl1 S ++ List.replicate p 61 := by
  unfold tl1
  by_cases h : S.getLast? = some 61
  · rw [if_pos h]
    refine ⟨1, by omega, ?_⟩
    have hne : S ≠ [] := by rintro rfl; cases h
    have e := List.dropLast_concat_getLast hne
    rw [List.getLast?_eq_some_getLast hne] at h
    rw [Option.some.inj h] at e
    exact e.symm
  · rw [if_neg h]
    exact ⟨0, by omega, by simp⟩
theorem dl_list (s : ByteArray) : dl s = tl1 (tl1 s.data.toList) := by
  show (trim1 (trim1 s)).data.toList = _
  rw [trim1_list, trim1_list]
theorem dl_of (s : ByteArray) (D : List UInt8) (p : Nat) (h : s.data.toList = D ++ List.replicate p 61) (hp : p ≤ 2) (hc : ∀ c ∈ D, 0 ≤ lv c) : dl s = D := by
  rw [dl_list, h]
  match p, hp with
  | 0, _ => rw [List.replicate_zero, List.append_nil, tl1_keep D hc, tl1_keep D hc]
  | 1, _ => rw [show List.replicate 1 (61 : UInt8) = [61] from rfl, tl1_fill, tl1_keep D hc]
  | 2, _ => rw [show List.replicate 2 (61 : UInt8) = [61] ++ [61] from rfl, ← List.append_assoc, tl1_fill, tl1_fill]
theorem dl_split (s : ByteArray) : ∃ p, p ≤ 2 ∧ s.data.toList = dl s ++ List.replicate p 61 := by
  obtain ⟨p, hp, e1⟩ := tl1_split s.data.toList
  obtain ⟨q, hq, e2⟩ := tl1_split (tl1 s.data.toList)
  refine ⟨q + p, by omega, ?_⟩
  rw [dl_list, ← List.replicate_append_replicate, ← List.append_assoc, ← e2]
  exact e1
theorem pkT_all (S : List UInt8) : pkT b64L S S.length = pk (S.map lv) := by
  unfold pkT pk
  rw [List.take_of_length_le (Nat.le_refl _)]
  rfl

theorem uhex_forth (xs : List Int) (h : isB xs) : uxE (str (hexB xs)).data.toList = 0 ∧ uxB (str (hexB xs)).data.toList = xs := by
  obtain ⟨h1, h2⟩ := hex_forth xs h
  rw [str_data]
  have hl : (tx (hexB xs)).length % 2 = 0 := by rw [tx_length, hexB_length]; omega
  have hn : ¬ (fb hexL (tx (hexB xs)) < (tx (hexB xs)).length ∨ (tx (hexB xs)).length % 2 ≠ 0) := by
    rintro (q | q)
    · exact (fb_all hexL _).2 h1 q
    · exact q hl
  unfold uxE uxB
  rw [if_neg hn, if_neg hn]
  exact ⟨rfl, h2⟩
theorem uhex_back (s : ByteArray) (h : uxE s.data.toList = 0) : str (hexB (uxB s.data.toList)) = s := by
  unfold uxE at h
  by_cases hn : fb hexL s.data.toList < s.data.toList.length ∨ s.data.toList.length % 2 ≠ 0
  · rw [if_pos hn] at h; omega
  · unfold uxB
    rw [if_neg hn]
    exact str_of (hex_back _ (by omega) ((fb_all hexL _).1 (fun q => hn (.inl q))))
theorem ub64_forth (xs : List Int) (h : isB xs) : ubE (str (b64B xs)) = 0 ∧ ubB (str (b64B xs)) = xs := by
  obtain ⟨D, p, e1, e2, e3, e4, e5, e6⟩ := b64_forth xs h
  have hd : dl (str (b64B xs)) = D := dl_of _ D p (by rw [str_data]; exact e1) e2 e4
  have hsz : (str (b64B xs)).size = D.length + p := by
    have e := congrArg List.length e1
    rw [tx_length, List.length_append, List.length_replicate] at e
    rw [str_size, e]
  have hl : lft (str (b64B xs)) = 0 := by unfold lft; rw [hd, pkT_all]; exact e5
  have hn : ¬ (fb b64L (dl (str (b64B xs))) < (dl (str (b64B xs))).length ∨ (str (b64B xs)).size % 4 ≠ 0 ∨ lft (str (b64B xs)) ≠ 0) := by
    rintro (q | q | q)
    · rw [hd] at q
      exact (fb_all b64L _).2 e4 q
    · rw [hsz] at q; exact q e3
    · exact q hl
  unfold ubE ubB
  rw [if_neg hn, if_neg hn, hd, pkT_all]
  exact ⟨rfl, e6⟩
theorem ub64_back (s : ByteArray) (h : ubE s = 0) : str (b64B (ubB s)) = s := by
  unfold ubE at h
  by_cases hn : fb b64L (dl s) < (dl s).length ∨ s.size % 4 ≠ 0 ∨ lft s ≠ 0
  · rw [if_pos hn] at h; omega
  · unfold ubB
    rw [if_neg hn, pkT_all]
    obtain ⟨p, hp, e⟩ := dl_split s
    have hsz : s.size = (dl s).length + p := by
      have q := congrArg List.length e
      rw [List.length_append, List.length_replicate] at q
      simpa using q
    have hl : (pk ((dl s).map lv)).1 = 0 := by
      have q : ¬ lft s ≠ 0 := fun q => hn (.inr (.inr q))
      unfold lft at q
      rw [pkT_all] at q
      simpa using q
    have hc := (fb_all b64L (dl s)).1 (fun q => hn (.inl q))
    refine str_of ?_
    rw [b64_back (dl s) p hc (by omega) hp hl, e]
    simp [nums]

end Go.Proofs.Ytgfmncgdajhmfaa
