/-
  octet, ported from round 1 (Unb).
-/
import Derived.Test.YtgfmncgdajhmfaaOPack
import Derived.Test.YtgfmncgdajhmfaaOTrim
namespace Go.Proofs.Ytgfmncgdajhmfaa
open Go.RowKit
set_option linter.unusedVariables false

/-- The digits to the base 64. -/
def b64S : ByteArray := { data := #[65, 66, 67, 68, 69, 70, 71, 72, 73, 74, 75, 76, 77, 78, 79, 80, 81, 82, 83, 84, 85, 86, 87, 88, 89, 90, 97, 98, 99, 100, 101, 102, 103, 104, 105, 106, 107, 108, 109, 110, 111, 112, 113, 114, 115, 116, 117, 118, 119, 120, 121, 122, 48, 49, 50, 51, 52, 53, 54, 55, 56, 57, 43, 47] }
def b64L : List UInt8 := b64S.data.toList
def dl (s : ByteArray) : List UInt8 := (digs s).data.toList
def lft (s : ByteArray) : Int := (pkT b64L (dl s) (dl s).length).1
/-- Unbase64's three answers. -/
def ubB (s : ByteArray) : List Int := if fb b64L (dl s) < (dl s).length ∨ s.size % 4 ≠ 0 ∨ lft s ≠ 0 then [] else (pkT b64L (dl s) (dl s).length).2.2
def ubAt (s : ByteArray) : Int := if fb b64L (dl s) < (dl s).length then fb b64L (dl s) else if s.size % 4 ≠ 0 then s.size else if lft s ≠ 0 then ((dl s).length : Int) - 1 else 0
def ubE (s : ByteArray) : Int := if fb b64L (dl s) < (dl s).length ∨ s.size % 4 ≠ 0 ∨ lft s ≠ 0 then 11 else 0

/-- A slice that the call made: nil and empty, or its own row. -/
def NewO (w : World) (B : Nat) (v : Value) (xs : List Int) : Prop := (v = .slice none 0 0 ∧ xs = []) ∨ (Own w B v xs ∧ v ≠ .slice none 0 0)

theorem digit_bd (S : List UInt8) (h : ¬ fb b64L S < S.length) : ∀ i (hi : i < S.length), 0 ≤ pl b64L S[i] ∧ pl b64L S[i] ≤ 63 := by
  intro i hi
  have h1 := pl_bd b64L S[i]
  have hl : b64L.length = 64 := rfl
  have h2 : ¬ pl b64L S[i] < 0 := by
    have hlen : fb b64L S = S.length := by
      have := List.findIdx_le_length (p := fun c => decide (pl b64L c < 0)) (xs := S)
      unfold fb at h ⊢
      omega
    unfold fb at hlen
    have := List.findIdx_eq_length.1 hlen S[i] (List.getElem_mem hi)
    simpa using this
  omega

theorem Own.base {w : World} {B B' : Nat} {v : Value} {xs : List Int} (h : Own w B' v xs) (hB : B ≤ B') : Own w B v xs := by
  obtain ⟨h1, h2⟩ := h
  refine ⟨h1, ?_⟩
  rcases h2 with h2 | ⟨g, cap, cur, e, hg, r⟩
  · exact .inl h2
  · exact .inr ⟨g, cap, cur, e, Nat.le_trans hB hg, r⟩

theorem digs_size (s : ByteArray) : (digs s).size ≤ s.size := Nat.le_trans (trim1_size _) (trim1_size _)

set_option maxRecDepth 100000 in
set_option maxHeartbeats 1000000 in
theorem unb_any (s : ByteArray) (w : World) (hs : s.size ≤ 8388608) :
    Calls Try.prog 9 #[.string s] w fun e w' => ∃ v, e = .returned (.tuple #[v, .int .i64 (ubAt s), .int .i64 (ubE s)]) ∧ NewO w' w.heap.size v (ubB s) ∧ Below w.heap.size w w' := by
  have hds := digs_size s
  have HZ := hide (show (dl s).length = (digs s).size by simp [dl])
  by_cases hf : fb b64L (dl s) < (dl s).length
  · have e1 : ubAt s = fb b64L (dl s) := by rw [ubAt, if_pos hf]
    have e2 : ubE s = 11 := by rw [ubE, if_pos (.inl hf)]
    have e3 : ubB s = [] := by rw [ubB, if_pos (.inl hf)]
    have e4 := hide (show fbAt b64L (dl s) = fb b64L (dl s) by rw [fbAt, if_pos hf])
    have e5 := hide (show fbF b64L (dl s) = true by rw [fbF]; exact decide_eq_true hf)
    rw [e1, e2, e3]
    clear e1 e2 e3 hf
    go_enter Try.func9, Try.ntmps9
    go_wp2_with (first | (go_at_call 19; refine (valueAmong_any b64S _).mono ?_; rintro e w1 ⟨g, rfl, hg, hb⟩) | (go_at_call 21; refine (withoutFilling_any s _ (by omega)).mono ?_; rintro e w' ⟨rfl, rfl⟩) | (go_at_call 20; refine (firstNoDigit_any b64S (digs s) g _ (by omega) hg).mono ?_; rintro e w2 ⟨rfl, rfl⟩; rw [show b64S.data.toList = b64L from rfl, show (digs s).data.toList = dl s from rfl, e4.out, e5.out]))
    go_ret3
    exact ⟨_, rfl, .inl ⟨rfl, rfl⟩, hb⟩
  have e4 := hide (show fbAt b64L (dl s) = 0 by rw [fbAt, if_neg hf])
  have e5 := hide (show fbF b64L (dl s) = false by rw [fbF]; exact decide_eq_false hf)
  by_cases ho : s.size % 4 ≠ 0
  · have e1 : ubAt s = s.size := by rw [ubAt, if_neg hf, if_pos ho]
    have e2 : ubE s = 11 := by rw [ubE, if_pos (.inr (.inl ho))]
    have e3 : ubB s = [] := by rw [ubB, if_pos (.inr (.inl ho))]
    have hodd : (((s.size : Int) % 4) != 0) = true := by simp; omega
    rw [e1, e2, e3]
    clear e1 e2 e3 hf ho
    go_enter Try.func9, Try.ntmps9
    go_wp2_with (first | (go_at_call 19; refine (valueAmong_any b64S _).mono ?_; rintro e w1 ⟨g, rfl, hg, hb⟩) | (go_at_call 21; refine (withoutFilling_any s _ (by omega)).mono ?_; rintro e w' ⟨rfl, rfl⟩) | (go_at_call 20; refine (firstNoDigit_any b64S (digs s) g _ (by omega) hg).mono ?_; rintro e w2 ⟨rfl, rfl⟩; rw [show b64S.data.toList = b64L from rfl, show (digs s).data.toList = dl s from rfl, e4.out, e5.out]))
    go_ret3
    exact ⟨_, rfl, .inl ⟨rfl, rfl⟩, hb⟩
  have hev : (((s.size : Int) % 4) != 0) = false := by simp; omega
  have HDG := hide (digit_bd (dl s) hf)
  by_cases hl : lft s ≠ 0
  · have e1 : ubAt s = ((digs s).size : Int) - 1 := by rw [ubAt, if_neg hf, if_neg ho, if_pos hl, HZ.out]
    have e2 : ubE s = 11 := by rw [ubE, if_pos (.inr (.inr hl))]
    have e3 : ubB s = [] := by rw [ubB, if_pos (.inr (.inr hl))]
    have hlb : (lft s != 0) = true := by simp [hl]
    rw [e1, e2, e3]
    clear e1 e2 e3 hf ho hl
    go_enter Try.func9, Try.ntmps9
    go_wp2_with (first | (go_at_call 19; refine (valueAmong_any b64S _).mono ?_; rintro e w1 ⟨g, rfl, hg, hb⟩) | (go_at_call 21; refine (withoutFilling_any s _ (by omega)).mono ?_; rintro e w' ⟨rfl, rfl⟩) | (go_at_call 20; refine (firstNoDigit_any b64S (digs s) g _ (by omega) hg).mono ?_; rintro e w2 ⟨rfl, rfl⟩; rw [show b64S.data.toList = b64L from rfl, show (digs s).data.toList = dl s from rfl, e4.out, e5.out]) | (go_at_call 22; refine (packed_any b64S (digs s) g _ (by omega) hg HDG.out).mono ?_; rintro e w3 ⟨v3, rfl, ho3, hn3, hb3⟩; rw [← HZ.out, show (pkT b64S.data.toList (digs s).data.toList (dl s).length).1 = lft s from rfl]))
    go_ret3
    exact ⟨_, rfl, .inl ⟨rfl, rfl⟩, hb.trans (hb3.mono hb.size)⟩
  · have e1 : ubAt s = 0 := by rw [ubAt, if_neg hf, if_neg ho, if_neg hl]
    have e2 : ubE s = 0 := by rw [ubE, if_neg (by omega)]
    have e3 : ubB s = (pkT b64L (dl s) (dl s).length).2.2 := by rw [ubB, if_neg (by omega)]
    have hlb : (lft s != 0) = false := by simp at hl; simp [hl]
    rw [e1, e2, e3]
    clear e1 e2 e3 hf ho hl
    go_enter Try.func9, Try.ntmps9
    go_wp2_with (first | (go_at_call 19; refine (valueAmong_any b64S _).mono ?_; rintro e w1 ⟨g, rfl, hg, hb⟩) | (go_at_call 21; refine (withoutFilling_any s _ (by omega)).mono ?_; rintro e w' ⟨rfl, rfl⟩) | (go_at_call 20; refine (firstNoDigit_any b64S (digs s) g _ (by omega) hg).mono ?_; rintro e w2 ⟨rfl, rfl⟩; rw [show b64S.data.toList = b64L from rfl, show (digs s).data.toList = dl s from rfl, e4.out, e5.out]) | (go_at_call 22; refine (packed_any b64S (digs s) g _ (by omega) hg HDG.out).mono ?_; rintro e w3 ⟨v3, rfl, ho3, hn3, hb3⟩; rw [← HZ.out, show (pkT b64S.data.toList (digs s).data.toList (dl s).length).1 = lft s from rfl]; have HO3 := hide ho3; have HN3 := hide hn3; clear ho3 hn3))
    go_ret3
    refine ⟨v3, rfl, .inr ⟨?_, HN3.out⟩, hb.trans (hb3.mono hb.size)⟩
    rw [HZ.out]
    exact HO3.out.base hb.size

end Go.Proofs.Ytgfmncgdajhmfaa
