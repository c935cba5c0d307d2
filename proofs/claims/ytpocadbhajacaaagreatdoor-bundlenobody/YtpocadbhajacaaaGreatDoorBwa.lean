/-
  Leaves in files: names of files, whole leaves of a file's bytes. No program here.
-/
import Derived.Test.YtpocadbhajacaaaGreatDoorKgn
import Derived.Test.YtpocadbhajacaaaGreatDoorJpa
namespace Go.Proofs.YtpocadbhajacaaaGreatDoor
open Go.RowKit
set_option linter.unusedVariables false
set_option linter.unusedSimpArgs false

/-! ### names -/
/-- A height. -/
def hB (h : Nat) : Prop := 1 ≤ h ∧ h ≤ 8
theorem hB.pow {h : Nat} (k : hB h) : 2 ≤ 2 ^ h ∧ 2 ^ h ≤ 256 := by
  obtain ⟨a, b⟩ := k
  have h1 := Nat.pow_le_pow_right (n := 2) (by decide) a
  have h2 := Nat.pow_le_pow_right (n := 2) (by decide) b
  omega
/-- leaf/ -/
def lfP : List UInt8 := [108, 101, 97, 102, 47]
/-- The name of a file of leaves. -/
def lfL (h k : Nat) : List UInt8 := lfP ++ Lib.decDigits h ++ [47] ++ jD k
def lfN (h k : Nat) : ByteArray := bA (lfL h k)
theorem dec_h {h : Nat} (k : hB h) : Lib.decDigits h = [UInt8.ofNat (48 + h)] := by
  have := k.2
  rw [Lib.decDigits_one (by omega)]
theorem lfN_inj {h k h' k' : Nat} (a : hB h) (b : hB h') (e : lfN h k = lfN h' k') : h = h' ∧ k = k' := by
  have e1 := bA_inj e
  unfold lfL at e1
  rw [dec_h a, dec_h b, List.append_assoc, List.append_assoc, List.append_assoc, List.append_assoc] at e1
  have e2 := List.append_cancel_left e1
  simp only [List.cons_append, List.nil_append, List.cons.injEq, true_and] at e2
  refine ⟨?_, jD_inj e2.2⟩
  have e3 := congrArg UInt8.toNat e2.1
  have h1 := a.2
  have h2 := b.2
  simp only [UInt8.toNat_ofNat'] at e3
  omega
theorem lfN_size {h k : Nat} (a : hB h) (hk : k ≤ 2147483647) : (lfN h k).size = 7 + (jD k).length ∧ 13 ≤ (lfN h k).size ∧ (lfN h k).size ≤ 17 := by
  have h1 := jD_le hk
  have e : (lfN h k).size = 7 + (jD k).length := by
    unfold lfN
    rw [bA_size]
    unfold lfL
    rw [dec_h a]
    simp [lfP]
    omega
  omega
theorem lfN_nm {h k : Nat} (a : hB h) (hk : k ≤ 2147483647) : nmB (lfN h k) = true := by
  have := lfN_size a hk
  simp [nmB]
  omega

/-! ### whole leaves -/
/-- A leaf in a file. -/
def lfB (x : List Int) : List Int := ((x.length / 256 : Nat) : Int) :: ((x.length % 256 : Nat) : Int) :: x
theorem lfB_len (x : List Int) : (lfB x).length = x.length + 2 := by simp [lfB]
/-- The bytes of leaves. -/
def lfF (ls : List (List Int)) : List Int := ls.flatMap lfB
theorem lfF_app (a b : List (List Int)) : lfF (a ++ b) = lfF a ++ lfF b := by simp [lfF]
theorem lfF_cons (x : List Int) (t : List (List Int)) : lfF (x :: t) = lfB x ++ lfF t := by simp [lfF]
theorem lfF_nil : lfF [] = [] := rfl
/-- A file's whole leaves, at most so many. -/
def wl : Nat → List Int → List (List Int)
  | 0, _ => []
  | m + 1, a :: b :: t => if (a * 256 + b).toNat ≤ t.length then t.take (a * 256 + b).toNat :: wl m (t.drop (a * 256 + b).toNat) else []
  | _ + 1, _ => []
/-- How many bytes these have. -/
def wlE (m : Nat) (b : List Int) : Nat := (lfF (wl m b)).length
theorem wl_le : ∀ (m : Nat) (b : List Int), (wl m b).length ≤ m
  | 0, _ => by simp [wl]
  | m + 1, [] => by simp [wl]
  | m + 1, [_] => by simp [wl]
  | m + 1, a :: b :: t => by
    unfold wl
    split
    · have := wl_le m (t.drop (a * 256 + b).toNat)
      simp
      omega
    · simp
/-- Bytes begin with their whole leaves. -/
theorem wl_pre : ∀ (m : Nat) (b : List Int), isB b → ∃ rest, b = lfF (wl m b) ++ rest ∧ ((wl m b).length = m ∨ wl 1 rest = [])
  | 0, b, _ => ⟨b, by simp [wl, lfF], .inl rfl⟩
  | m + 1, [], _ => ⟨[], by simp [wl, lfF], .inr (by simp [wl])⟩
  | m + 1, [x], _ => ⟨[x], by simp [wl, lfF], .inr (by simp [wl])⟩
  | m + 1, a :: b :: t, hb => by
    have ha := hb a (by simp)
    have hbb := hb b (by simp)
    by_cases hk : (a * 256 + b).toNat ≤ t.length
    · obtain ⟨rest, e1, e2⟩ := wl_pre m (t.drop (a * 256 + b).toNat) (fun y hy => hb y (by simp [List.mem_of_mem_drop hy]))
      have ew : wl (m + 1) (a :: b :: t) = t.take (a * 256 + b).toNat :: wl m (t.drop (a * 256 + b).toNat) := by
        conv => lhs; unfold wl
        rw [if_pos hk]
      refine ⟨rest, ?_, ?_⟩
      · rw [ew, lfF_cons, List.append_assoc, ← e1]
        unfold lfB
        have hl : (t.take (a * 256 + b).toNat).length = (a * 256 + b).toNat := by rw [List.length_take]; omega
        rw [hl]
        have h1 : (((a * 256 + b).toNat / 256 : Nat) : Int) = a := by omega
        have h2 : (((a * 256 + b).toNat % 256 : Nat) : Int) = b := by omega
        rw [h1, h2]
        simp
      · rw [ew]
        rcases e2 with e2 | e2
        · exact .inl (by rw [List.length_cons, e2])
        · exact .inr e2
    · have ew : wl (m + 1) (a :: b :: t) = [] := by
        conv => lhs; unfold wl
        rw [if_neg hk]
      refine ⟨a :: b :: t, by rw [ew]; simp [lfF], .inr ?_⟩
      unfold wl
      rw [if_neg hk]
theorem wl_one {rest : List Int} (h : wl 1 rest = []) : ∀ m, wl m rest = []
  | 0 => by simp [wl]
  | m + 1 => by
    match rest, h with
    | [], _ => simp [wl]
    | [_], _ => simp [wl]
    | a :: b :: t, h =>
      unfold wl at h ⊢
      split at h
      · simp at h
      · rename_i hk
        rw [if_neg hk]
/-- A leaf that may be. -/
def LfOk (x : List Int) : Prop := x.length ≤ 65535 ∧ isB x
theorem wl_cons (m : Nat) {x : List Int} (hx : x.length ≤ 65535) (t : List Int) : wl (m + 1) (lfB x ++ t) = x :: wl m t := by
  unfold lfB
  rw [List.cons_append, List.cons_append]
  conv => lhs; unfold wl
  have hl : (((x.length / 256 : Nat) : Int) * 256 + ((x.length % 256 : Nat) : Int)).toNat = x.length := by omega
  rw [hl, if_pos (by rw [List.length_append]; omega), List.take_left, List.drop_left]
theorem wl_app : ∀ (ls : List (List Int)) (m : Nat) (t : List Int), (∀ x ∈ ls, x.length ≤ 65535) → wl (ls.length + m) (lfF ls ++ t) = ls ++ wl m t
  | [], m, t, _ => by simp [lfF]
  | x :: r, m, t, h => by
    rw [List.length_cons, show r.length + 1 + m = (r.length + m) + 1 by omega, lfF_cons, List.append_assoc, wl_cons _ (h x (by simp)), wl_app r m t (fun y hy => h y (by simp [hy]))]
    rfl
theorem wl_all {ls : List (List Int)} {m : Nat} (h : ∀ x ∈ ls, x.length ≤ 65535) (hm : ls.length ≤ m) : wl m (lfF ls) = ls := by
  have := wl_app ls (m - ls.length) [] h
  rw [List.append_nil, show ls.length + (m - ls.length) = m by omega] at this
  rw [this, wl_one (by simp [wl])]
  simp
theorem wl_ok : ∀ (m : Nat) (b : List Int), isB b → ∀ x ∈ wl m b, LfOk x
  | 0, _, _, x, hx => by simp [wl] at hx
  | m + 1, [], _, x, hx => by simp [wl] at hx
  | m + 1, [_], _, x, hx => by simp [wl] at hx
  | m + 1, a :: b :: t, hb, x, hx => by
    have ha := hb a (by simp)
    have hbb := hb b (by simp)
    unfold wl at hx
    split at hx
    · rename_i hk
      rcases List.mem_cons.1 hx with rfl | hx
      · exact ⟨by rw [List.length_take]; omega, fun y hy => hb y (by simp [List.mem_of_mem_take hy])⟩
      · exact wl_ok m _ (fun y hy => hb y (by simp [List.mem_of_mem_drop hy])) x hx
    · simp at hx
theorem wlE_le (m : Nat) (b : List Int) (hb : isB b) : wlE m b ≤ b.length := by
  obtain ⟨rest, e, _⟩ := wl_pre m b hb
  unfold wlE
  have := congrArg List.length e
  rw [List.length_append] at this
  omega
/-- What lies behind the whole leaves. -/
theorem wl_rest (m : Nat) (b : List Int) (hb : isB b) : b = lfF (wl m b) ++ b.drop (wlE m b) := by
  obtain ⟨rest, e, _⟩ := wl_pre m b hb
  unfold wlE
  conv => lhs; rw [e]
  congr 1
  conv => rhs; rw [e]
  rw [show (lfF (wl m (lfF (wl m b) ++ rest))).length = (lfF (wl m b)).length by rw [← e], List.drop_left]
/-- Fewer leaves. -/
theorem wl_take : ∀ (m k : Nat) (b : List Int), (wl (m + k) b).take m = wl m b
  | 0, k, b => by simp [wl]
  | m + 1, k, [] => by rw [show m + 1 + k = (m + k) + 1 by omega]; simp [wl]
  | m + 1, k, [_] => by rw [show m + 1 + k = (m + k) + 1 by omega]; simp [wl]
  | m + 1, k, a :: b :: t => by
    rw [show m + 1 + k = (m + k) + 1 by omega]
    unfold wl
    split
    · rw [List.take_succ_cons, wl_take m k]
    · simp

end Go.Proofs.YtpocadbhajacaaaGreatDoor
