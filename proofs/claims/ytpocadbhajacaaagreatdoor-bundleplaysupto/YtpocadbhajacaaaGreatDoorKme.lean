/-
  Bytes cut and cloned; an entry's pieces.
-/
import Derived.Test.YtpocadbhajacaaaGreatDoorKmd
namespace Go.Proofs.YtpocadbhajacaaaGreatDoor
open Go.RowKit
set_option linter.unusedVariables false

theorem Own.of_blk {w : World} {g B : Nat} {xs : List Int} (h : Blk w g 5 (u8s xs)) (hB : B ≤ g) (hl : xs.length ≤ 9223372036854775807) : Own w B (.slice (some ⟨g, 0, none⟩) xs.length xs.length) xs :=
  ⟨by rw [u8s_length]; omega, .inr ⟨g, xs.length, (u8s xs).toArray, rfl, hB, h, Nat.le_refl _, by unfold maxLen; omega, by simp [u8s_length], by rw [List.take_of_length_le (by simp [u8s_length])]⟩⟩
theorem eql_nil (a : Option Addr) (l c : Nat) (w : World) : (binOp .eql 31 (.slice a l c) (.slice none 0 0)).run Tryz.prog w = .ok (.bool a.isNone) w := by
  have h := run_equal_slice_nil (P := Tryz.prog) w 31 5 a l c undBs
  simp [binOp, h, Result.andThen]
set_option maxHeartbeats 400000 in
theorem clone_any (a : Option Addr) (len cap : Nat) (xs : List Int) (w : World) (hs : Sl w a len cap xs) :
    Calls Tryz.prog 63 #[.slice a len cap] w fun e w' => ∃ v, e = .returned v ∧ Own w' w.heap.size v xs ∧ Below w.heap.size w w' := by
  cases a with
  | none =>
    obtain ⟨rfl, rfl⟩ := hs.hnil rfl
    obtain rfl : xs = [] := List.eq_nil_of_length_eq_zero hs.hlen
    clear hs
    have hq : ∀ w : World, (binOp .eql 31 (.slice none 0 0) (.slice none 0 0)).run Tryz.prog w = .ok (.bool true) w := fun w => eql_nil none 0 0 w
    go_enter Tryz.func63, Tryz.ntmps63
    go_wp2
    go_ret
    exact ⟨_, rfl, Own.nil _ _, Below.refl _ _⟩
  | some x =>
    have hr : len ≤ 140737488355328 := by obtain ⟨_, _, _, h4, _⟩ := hs; exact h4
    have HS := hide hs
    clear hs
    have hq : ∀ w : World, (binOp .eql 31 (.slice (some x) len cap) (.slice none 0 0)).run Tryz.prog w = .ok (.bool false) w := fun w => eql_nil (some x) len cap w
    go_enter Tryz.func63, Tryz.ntmps63
    have ho0 : Own (w.alloc (.cells #[] 5)) w.heap.size (.slice (some ⟨w.heap.size, 0, none⟩) 0 0) [] := Own.of_blk (xs := []) (Blk.made w 5 []) (Nat.le_refl _) (by simp)
    have hb0 : Below w.heap.size w (w.alloc (.cells #[] 5)) := (Below.refl _ _).alloc (Nat.le_refl _) _
    go_wp2_with (refine step_append rfl rfl rfl ho0 (HS.out.below hb0) (by simp; omega) (by simp) ?_)
    intro v1 w1 ho1 hg1 hn1
    have hb1 : Below w.heap.size w w1 := hb0.trans (Below.of_grown hg1 hb0.size ho0.lt)
    rw [List.nil_append] at ho1
    go_wp2
    go_ret
    exact ⟨_, rfl, ho1, hb1⟩
/-- A new slice that holds bytes is one of those that a record holds. -/
theorem Own.bv {w : World} {B : Nat} {v : Value} {xs : List Int} (h : Own w B v xs) (hb : isB xs) (hl : xs.length ≤ 140737488355328) (h0 : xs ≠ []) : BV w v xs := by
  have hl0 : 0 < xs.length := List.length_pos_iff.2 h0
  obtain ⟨a, c, rfl⟩ := h.slice
  obtain ⟨g, rfl, _, hc⟩ := h.cap hl0
  obtain ⟨cs, hcs⟩ := h.lies (k := g) rfl
  obtain ⟨g', cap', e, _, hs⟩ := h.sl hb hl (fun e => by cases e)
  injection e with e1 e2 e3
  injection e1 with e1
  injection e1 with e1
  subst e1 e3
  exact .inr ⟨g, 0, _, _, rfl, hl0, hs, cs, hcs⟩
end Go.Proofs.YtpocadbhajacaaaGreatDoor
