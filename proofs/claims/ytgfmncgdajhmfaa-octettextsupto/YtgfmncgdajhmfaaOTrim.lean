/-
  octet, ported from round 1 (Trim).
-/
import Derived.Test.YtgfmncgdajhmfaaODigit
import Derived.Lib.Strings
namespace Go.Proofs.Ytgfmncgdajhmfaa
open Go.RowKit
set_option linter.unusedVariables false

/-- Does the text end with the letter that fills? -/
def ends (s : ByteArray) : Bool := if h : 0 < s.size then s[s.size - 1] == 61 else false
/-- It without that letter. -/
def trim1 (s : ByteArray) : ByteArray := if ends s = true then s.extract 0 (s.size - 1) else s
/-- The text's digits. -/
def digs (s : ByteArray) : ByteArray := trim1 (trim1 s)

theorem last_list (s : ByteArray) (h : 0 < s.size) : (s.extract (s.size - 1) s.size).toList = [s[s.size - 1]] := by
  have hl : s.data.toList.length = s.size := by simp
  rw [ByteArray.toList_eq, Lib.extract_data, List.drop_eq_getElem_cons (by omega)]
  have e : s.size - (s.size - 1) = 1 := by omega
  have e2 : s.size - 1 + 1 = s.size := by omega
  rw [e, e2, List.drop_eq_nil_of_le (by omega)]
  rfl

set_option maxHeartbeats 400000 in
theorem hasSuffix_any (s : ByteArray) (w : World) (hs : s.size ≤ 281474976710656) :
    Calls Try.prog 32 #[.string s, .string { data := #[61] }] w fun e w' => e = .returned (.bool (ends s)) ∧ w = w' := by
  by_cases h0 : 0 < s.size
  · have e : ends s = (s[s.size - 1] == 61) := by simp [ends, h0]
    have ht : ((s.extract (s.size - 1) s.size).toList == [61]) = (s[s.size - 1] == 61) := by
      rw [last_list s h0, Bool.eq_iff_iff]; simp
    have h1 : (1 : Int) ≤ s.size := by omega
    have E := hide e
    clear e
    go_enter Try.func32, Try.ntmps32
    go_wp2
    go_ret
    rw [E.out]
    exact ⟨rfl, rfl⟩
  · have E := hide (show ends s = false by simp [ends, h0])
    have h1 : ¬ ((1 : Int) ≤ s.size) := by omega
    clear h0
    go_enter Try.func32, Try.ntmps32
    go_wp2
    go_ret
    rw [E.out]
    exact ⟨rfl, rfl⟩

theorem ends_pos {s : ByteArray} (h : ends s = true) : 0 < s.size := by
  unfold ends at h
  split at h
  · assumption
  · cases h

set_option maxHeartbeats 400000 in
theorem trimL_any (s : ByteArray) (w : World) (hs : s.size ≤ 281474976710656) :
    Calls Try.prog 30 #[.string s, .string { data := #[61] }] w fun e w' => e = .returned (.string (trim1 s)) ∧ w = w' := by
  cases hE : ends s
  · have E := hide (show trim1 s = s by simp [trim1, hE])
    have HE := hide hE
    clear hE
    go_enter Try.func30, Try.ntmps30
    go_wp2_with (go_at_call 32; refine (hasSuffix_any s _ hs).mono ?_; rintro e w' ⟨rfl, rfl⟩; rw [HE.out])
    go_ret
    rw [E.out]
    exact ⟨rfl, rfl⟩
  · have hp := ends_pos hE
    have E := hide (show trim1 s = s.extract 0 (s.size - 1) by simp [trim1, hE])
    have HE := hide hE
    clear hE
    go_enter Try.func30, Try.ntmps30
    go_wp2_with (go_at_call 32; refine (hasSuffix_any s _ hs).mono ?_; rintro e w' ⟨rfl, rfl⟩; rw [HE.out])
    go_ret
    rw [E.out]
    exact ⟨rfl, rfl⟩

set_option maxHeartbeats 400000 in
theorem trim_any (s : ByteArray) (w : World) (hs : s.size ≤ 281474976710656) :
    Calls Try.prog 28 #[.string s, .string { data := #[61] }] w fun e w' => e = .returned (.string (trim1 s)) ∧ w = w' := by
  go_enter Try.func28, Try.ntmps28
  go_wp2_with (go_at_call 30; refine (trimL_any s _ hs).mono ?_; rintro e w' ⟨rfl, rfl⟩)
  go_ret
  exact ⟨rfl, rfl⟩

theorem trim1_size (s : ByteArray) : (trim1 s).size ≤ s.size := by
  unfold trim1
  split
  · simp
  · omega

set_option maxHeartbeats 400000 in
theorem withoutFilling_any (s : ByteArray) (w : World) (hs : s.size ≤ 281474976710656) :
    Calls Try.prog 21 #[.string s] w fun e w' => e = .returned (.string (digs s)) ∧ w = w' := by
  have h2 := trim1_size s
  go_enter Try.func21, Try.ntmps21
  go_wp2_with fail
  refine (trim_any s _ hs).mono ?_
  rintro e w' ⟨rfl, rfl⟩
  go_wp2_with fail
  refine (trim_any (trim1 s) _ (by omega)).mono ?_
  rintro e w' ⟨rfl, rfl⟩
  go_wp2
  go_ret
  exact ⟨rfl, rfl⟩

end Go.Proofs.Ytgfmncgdajhmfaa
