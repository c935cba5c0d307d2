/-
  Read of both, Size.
-/
import Derived.Test.YtpocadbhajacaaaGreatDoorKmi
namespace Go.Proofs.YtpocadbhajacaaaGreatDoor
open Go.RowKit
set_option linter.unusedVariables false

theorem add_block (y : Addr) (k : Nat) : (y.add k).block = y.block := by
  unfold Addr.add
  split <;> rfl
section
variable {w : World} {a : Option Addr} {n c : Nat} {xs : List Int}
theorem Sl.to' (h : Sl w a n c xs) {k : Nat} (hk : k ≤ n) : (∀ W : World, (Instr.slice 31 (.slice a n c) none (some (.int .i64 (k : Int))) none).run Tryz.prog W = .ok (.slice a k c) W) ∧ ∀ W : World, Sl W a n c xs → Sl W a k c (xs.take k) := by
  have hcn := h.hcap
  refine ⟨fun W => ?_, fun W h => h.take k hk⟩
  rw [run_slice_h W _ _ _ _ und22 .i64 k (by omega) (by omega), elem22, sizeB]
  cases a with
  | none => simp [sliced]
  | some x => simp [sliced, Addr.add_zero']
theorem Sl.from' (h : Sl w a n c xs) {k : Nat} (hk : k ≤ n) : ∃ a', (∀ W : World, (Instr.slice 31 (.slice a n c) (some (.int .i64 (k : Int))) none none).run Tryz.prog W = .ok (.slice a' (n - k) (c - k)) W) ∧ (∀ x, a' = some x → ∃ y, a = some y ∧ y.block = x.block) ∧ ∀ W : World, Sl W a n c xs → Sl W a' (n - k) (c - k) (xs.drop k) := by
  have hcn := h.hcap
  refine ⟨if c = k then a else a.map (·.add k), fun W => ?_, fun x hx => ?_, fun W h => ?_⟩
  · rw [run_slice_l W _ _ _ _ und22 .i64 k (by omega) (by omega), elem22, sizeB]
    simp [sliced]
  · split at hx
    · exact ⟨x, hx, rfl⟩
    · cases a with
      | none => cases hx
      | some y =>
        simp at hx
        subst hx
        exact ⟨y, rfl, (add_block y k).symm⟩
  · obtain ⟨h1, h2, h3, h4, h5, h6, h7⟩ := h
    refine ⟨by rw [List.length_drop]; omega, by omega, by omega, by omega, h5.drop _, (fun e => ?_), fun h0 => ?_⟩
    · have : a = none := by
        split at e
        · exact e
        · simpa using e
      have := h6 this
      omega
    · rw [if_neg (by omega)]
      obtain ⟨b, o, e, hc⟩ := h7 (by omega)
      subst e
      refine ⟨b, o + k, by simp [Addr.add_lit], fun i hi => ?_⟩
      rw [show o + k + i = o + (k + i) by omega, hc (k + i) (by omega)]
      simp [List.getD, List.getElem?_drop]
end
/-! ### what Read tells -/
def rqE (rs : List Rw) (n : ByteArray) (at' k : Int) : Int := if fE rs n = 0 then (if at' < 0 ∨ ((fl (play rs) n).length : Int) < at' ∨ k < 0 then 2 else 0) else fE rs n
def rqB (rs : List Rw) (n : ByteArray) (at' k : Int) : List Int := if rqE rs n at' k = 0 then ((fl (play rs) n).drop at'.toNat).take (min k.toNat ((fl (play rs) n).length - at'.toNat)) else []

end Go.Proofs.YtpocadbhajacaaaGreatDoor
