/-
  octet, ported from round 1 (Digit).
-/
import Derived.Test.YtgfmncgdajhmfaaOMem
import Derived.Lib.Bytealg
namespace Go.Proofs.Ytgfmncgdajhmfaa
open Go.RowKit
set_option linter.unusedVariables false

/-- A letter's place among the digits; -1: it is none. -/
def pl (A : List UInt8) (c : UInt8) : Int := Lib.indexByte A c

theorem pl_none (A : List UInt8) (c : UInt8) (h : ∀ j : Nat, A[j]? ≠ some c) : pl A c = -1 := by
  induction A with
  | nil => rfl
  | cons b l ih =>
    have hb : (b == c) = false := by
      have := h 0
      simp at this
      simp [this]
    have ih := ih (fun j => by have := h (j + 1); simpa using this)
    unfold pl at ih ⊢
    simp [Lib.indexByte, hb, ih]

theorem pl_at (A : List UInt8) (c : UInt8) : ∀ k : Nat, A[k]? = some c → (∀ j : Nat, j < k → A[j]? ≠ some c) → pl A c = k := by
  induction A with
  | nil => intro k hk; simp at hk
  | cons b l ih =>
    intro k hk hj
    cases k with
    | zero =>
      simp at hk
      subst hk
      simp [pl, Lib.indexByte]
    | succ k =>
      have hb : (b == c) = false := by
        have := hj 0 (by omega)
        simp at this
        simp [this]
      have h := ih k (by simpa using hk) (fun j hjk => by have := hj (j + 1) (by omega); simpa using this)
      unfold pl at h ⊢
      have hne : ((k : Int) == -1) = false := by rw [beq_eq_false_iff_ne]; omega
      simp [Lib.indexByte, hb, h, hne]

theorem pl_bd (A : List UInt8) (c : UInt8) : -1 ≤ pl A c ∧ pl A c < A.length := by
  induction A with
  | nil => simp [pl, Lib.indexByte]
  | cons b l ih =>
    unfold pl at ih ⊢
    simp only [Lib.indexByte, List.length_cons]
    split
    · omega
    · split
      · omega
      · rename_i h
        simp at h
        omega

theorem toU8 (c : UInt8) : ((c.toNat : Int)).toNat.toUInt8 = c := by simp

set_option maxHeartbeats 400000 in
theorem idx2_any (A : ByteArray) (c : UInt8) (w : World) :
    Calls Try.prog 29 #[.string A, .int .u8 c.toNat] w fun e w' => e = .returned (.int .i64 (pl A.data.toList c)) ∧ w = w' := by
  go_enter Try.func29, Try.ntmps29
  go_wp2
  rw [run_callFunc_extern Try.func31 (by kernel_rfl) (by kernel_rfl) (by kernel_rfl) (e := Extern.BytealgIndexByte.indexByte) (by kernel_rfl), Lib.run_indexByteString, toU8]
  simp only [Result.andThen]
  rw [Oper.upon_value]
  go_wp2
  go_ret
  exact ⟨rfl, rfl⟩

set_option maxHeartbeats 400000 in
theorem idx_any (A : ByteArray) (c : UInt8) (w : World) :
    Calls Try.prog 27 #[.string A, .int .u8 c.toNat] w fun e w' => e = .returned (.int .i64 (pl A.data.toList c)) ∧ w = w' := by
  go_enter Try.func27, Try.ntmps27
  go_wp2_with (go_at_call 29; refine (idx2_any _ _ _).mono ?_; rintro e w' ⟨rfl, rfl⟩)
  go_ret
  exact ⟨rfl, rfl⟩

/-- The closure of valueAmong: its digits lie in a variable of their own. -/
theorem value_any (A : ByteArray) (c : UInt8) (g : Nat) (w : World) (hg : w.cell? ⟨g, 0, none⟩ = some (.string A)) :
    Calls Try.prog 26 #[.int .u8 c.toNat, .pointer (some ⟨g, 0, none⟩)] w fun e w' => e = .returned (.int .i64 (pl A.data.toList c)) ∧ w = w' := by
  go_enter Try.func26, Try.ntmps26
  go_wp2_with (go_at_call 27; refine (idx_any _ _ _).mono ?_; rintro e w' ⟨rfl, rfl⟩)
  go_ret
  exact ⟨rfl, rfl⟩

theorem valueAmong_any (A : ByteArray) (w : World) :
    Calls Try.prog 19 #[.string A] w fun e w' => ∃ g, e = .returned (.func (.func 26) #[] #[.pointer (some ⟨g, 0, none⟩)]) ∧ w'.cell? ⟨g, 0, none⟩ = some (.string A) ∧ Below w.heap.size w w' := by
  go_enter Try.func19, Try.ntmps19
  go_wp2
  go_ret
  exact ⟨_, rfl, by simp, (Below.refl _ _).alloc (Nat.le_refl _) _⟩

/-- The place of the first letter that is no digit; the length: there is none. -/
def fb (A S : List UInt8) : Nat := S.findIdx (fun c => decide (pl A c < 0))

/-- As it is told: its place, and whether there is one. -/
def fbAt (A S : List UInt8) : Nat := if fb A S < S.length then fb A S else 0
def fbF (A S : List UInt8) : Bool := decide (fb A S < S.length)

set_option maxHeartbeats 400000 in
theorem firstNoDigit_any (A s : ByteArray) (g : Nat) (w : World) (hs : s.size ≤ 8388608) (hg : w.cell? ⟨g, 0, none⟩ = some (.string A)) :
    Calls Try.prog 20 #[.string s, .func (.func 26) #[] #[.pointer (some ⟨g, 0, none⟩)]] w fun e w' =>
      e = .returned (.tuple #[.int .i64 (fbAt A.data.toList s.data.toList), .bool (fbF A.data.toList s.data.toList)]) ∧ w = w' := by
  have HG := hide hg
  clear hg
  have hsz : s.data.toList.length = s.size := by simp
  have HZ := hide hsz
  clear hsz
  go_enter Try.func20, Try.ntmps20
  go_wp2
  go_loop [9] (fun i => ∃ k : Nat, k ≤ s.size ∧ i = .int .i64 k ∧ ∀ j (h : j < s.data.toList.length), j < k → 0 ≤ pl A.data.toList (s.data.toList[j])) (fun i => s.size - (intOf i).toNat)
  case atStart => exact ⟨0, Nat.zero_le _, rfl, fun j _ h => absurd h (by omega)⟩
  case round =>
    obtain ⟨k, hk, rfl, hbefore⟩ := hrel
    have HB := hide hbefore
    clear hbefore
    by_cases hlt : k < s.size
    · have hgk : s.data.toList[k]'(by rw [HZ.out]; exact hlt) = s[k] := rfl
      have HK := hide hgk
      clear hgk
      by_cases hp : pl A.data.toList s[k] < 0
      · have e : fb A.data.toList s.data.toList = k := by
          rw [fb, List.findIdx_eq (by rw [HZ.out]; exact hlt)]
          exact ⟨decide_eq_true (by rw [HK.out]; exact hp), fun j hj => decide_eq_false (Int.not_lt.2 (HB.out j (by rw [HZ.out]; omega) hj))⟩
        have E1 : Hid (fbAt A.data.toList s.data.toList = k) := by show _ = _; rw [fbAt, e, HZ.out, if_pos hlt]
        have E2 : Hid (fbF A.data.toList s.data.toList = true) := by show _ = _; rw [fbF, e, HZ.out]; exact decide_eq_true hlt
        clear e
        go_wp2_with (go_at_call 26; refine (value_any A _ g _ HG.out).mono ?_; rintro e w' ⟨rfl, rfl⟩)
        go_ret2
        rw [E1.out, E2.out]
        exact ⟨rfl, rfl⟩
      · have HP := hide hp
        go_wp2_with (go_at_call 26; refine (value_any A _ g _ HG.out).mono ?_; rintro e w' ⟨rfl, rfl⟩)
        go_round
        case rel =>
          refine ⟨k + 1, by omega, by go_num, fun j h hj => ?_⟩
          by_cases h2 : j < k
          · exact HB.out j h h2
          · obtain rfl : j = k := by omega
            rw [HK.out]
            exact HP.out
        case measure => simp [intOf]; omega
    · have e : fb A.data.toList s.data.toList = s.size := by
        rw [fb, ← HZ.out]
        apply List.findIdx_eq_length.2
        intro x hx
        obtain ⟨j, hj, rfl⟩ := List.getElem_of_mem hx
        exact decide_eq_false (Int.not_lt.2 (HB.out j hj (by rw [HZ.out] at hj; omega)))
      have E1 : Hid (fbAt A.data.toList s.data.toList = 0) := by show _ = _; rw [fbAt, e, HZ.out, if_neg (by omega)]
      have E2 : Hid (fbF A.data.toList s.data.toList = false) := by show _ = _; rw [fbF, e, HZ.out]; exact decide_eq_false (by omega)
      clear e
      go_wp2
      go_ret2
      rw [E1.out, E2.out]
      exact ⟨rfl, rfl⟩

end Go.Proofs.Ytgfmncgdajhmfaa
