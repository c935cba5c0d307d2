/-
  bits.TrailingZeros over its table; the level at which a span's next part stands.
-/
import Derived.Test.YtnjkjickclkmhaaDoorBl
import Derived.Test.YtnjkjickclkmhaaDoorPn
import Derived.Test.YtnjkjickclkmhaaDoorCon
import Derived.Lib.TrailingZeros
namespace Go.Proofs.YtnjkjickclkmhaaDoor
open Go.RowKit
set_option linter.unusedVariables false

/-- The table lies in its place. -/
def TT (w : World) : Prop := ∀ i, i < 64 → w.cell? ⟨1, i, none⟩ = some (.int .u8 (Lib.deBruijn64tab.getD i 0 : Int))
theorem TT.lt {w : World} (h : TT w) : 1 < w.heap.size := World.block_lt_of_cell? w _ (h 0 (by decide))
theorem TT.block {w w' : World} (h : TT w) (hb : w'.heap[1]? = w.heap[1]?) : TT w' := fun i hi => by
  rw [World.cell?_of_block (w := w) hb]; exact h i hi
theorem TT.below {w w' : World} {B : Nat} (h : TT w) (hb : Below B w w') (hB : 1 < B) : TT w' := h.block (hb.block _ hB)

theorem and_nat (a b : Nat) (ha : a < 2 ^ 64) (hb : b < 2 ^ 64) : bits .and .u64 (a : Int) (b : Int) = ((a &&& b : Nat) : Int) := by
  have hx : a &&& b < 2 ^ 64 := Nat.and_lt_two_pow _ hb
  have h1 : (BitVec.ofInt 64 (a : Int)).toNat = a := by rw [BitVec.ofInt_natCast, BitVec.toNat_ofNat]; exact Nat.mod_eq_of_lt ha
  have h2 : (BitVec.ofInt 64 (b : Int)).toNat = b := by rw [BitVec.ofInt_natCast, BitVec.toNat_ofNat]; exact Nat.mod_eq_of_lt hb
  show IntKind.u64.wrap ((BitVec.ofInt 64 (a : Int) &&& BitVec.ofInt 64 (b : Int)).toNat : Int) = _
  rw [BitVec.toNat_and, h1, h2, IntKind.wrap_u64]
  omega
/-- Which place of the table is asked. -/
theorem tz_place (x P : Nat) (hx : x < 2 ^ 64) (h0 : x ≠ 0) (hP : x &&& (2 ^ 64 - x) = P) : IntKind.u64.wrap (bits BinOp.and IntKind.u64 (x : Int) (IntKind.u64.wrap (-(x : Int))) * 285870213051353865) / 288230376151711744 = ((P * 285870213051353865 % 18446744073709551616 / 288230376151711744 : Nat) : Int) := by
  have e1 : IntKind.u64.wrap (-(x : Int)) = ((2 ^ 64 - x : Nat) : Int) := by rw [IntKind.wrap_u64]; omega
  rw [e1, and_nat x _ hx (by omega), hP, IntKind.wrap_u64]
  omega

set_option maxHeartbeats 1000000 in
theorem tz64_at (x k idx : Nat) (w : World) (h0 : ((x : Int) == 0) = false) (key : IntKind.u64.wrap (bits BinOp.and IntKind.u64 (x : Int) (IntKind.u64.wrap (-(x : Int))) * 285870213051353865) / 288230376151711744 = (idx : Int)) (hi : idx < 64) (hk : k < 64)
    (hc : w.cell? ⟨1, idx, none⟩ = some (.int .u8 (k : Int))) :
    Calls Tryd.prog 59 #[.int .u64 (x : Int)] w fun e w' => e = .returned (.int .i64 (k : Int)) ∧ w' = w := by
  go_enter Tryd.func59, Tryd.ntmps59
  go_wp2_with (simp only [key])
  go_ret
  exact ⟨rfl, rfl⟩
theorem tz64_any (x : Nat) (w : World) (hx : x < 2 ^ 64) (ht : TT w) : Calls Tryd.prog 59 #[.int .u64 (x : Int)] w fun e w' => e = .returned (.int .i64 (Lib.ctz 64 x : Int)) ∧ w' = w := by
  by_cases h0 : x = 0
  · subst h0
    go_enter Tryd.func59, Tryd.ntmps59
    go_wp2
    go_ret
    exact ⟨rfl, rfl⟩
  · obtain ⟨h1, h2⟩ := Lib.lowest_bit 64 x h0 hx
    obtain ⟨h3, h4⟩ := Lib.deBruijn64_at _ h2
    have hc := ht _ h3
    rw [h4] at hc
    exact tz64_at x _ _ w (by simp; omega) (tz_place x _ hx h0 h1) h3 h2 hc
theorem tz_any (x : Nat) (w : World) (hx : x < 2 ^ 64) (ht : TT w) : Calls Tryd.prog 48 #[.int .u64 (x : Int)] w fun e w' => e = .returned (.int .i64 (Lib.ctz 64 x : Int)) ∧ w' = w := by
  have hw : IntKind.u64.wrap (x : Int) = (x : Int) := by rw [IntKind.wrap_u64]; omega
  go_enter Tryd.func48, Tryd.ntmps48
  go_wp2_with (go_at_call 59; refine (tz64_any x _ hx ht).mono ?_; rintro e w' ⟨rfl, rfl⟩)
  go_ret
  exact ⟨rfl, rfl⟩

/-- The level of the next part. -/
theorem lev_min (a n : Nat) (ha : a < 2 ^ 64) (h0 : 0 < n) (hn : n ≤ 2 ^ 48) : IsLev a n (min (Lib.ctz 64 a) (Lib.bitLen n - 1)) := by
  obtain ⟨b1, b2, b3⟩ := bitLen_pow n n (Nat.le_refl _) h0 (Nat.lt_of_le_of_lt hn (by decide))
  have hc : ∀ j, j ≤ 49 → (2 ^ j ∣ a ↔ j ≤ Lib.ctz 64 a) := by
    intro j hj
    by_cases ha0 : a = 0
    · subst ha0
      exact ⟨fun _ => Nat.le_trans hj (by decide), fun _ => Nat.dvd_zero _⟩
    · obtain ⟨m, hm, hk⟩ := Lib.ctzFrom_spec 64 a (by omega) ha
      have e : Lib.ctz 64 a = Lib.ctzFrom 64 a := by simp [Lib.ctz, ha0]
      rw [e]
      generalize Lib.ctzFrom 64 a = c at *
      constructor
      · intro hd
        apply Nat.le_of_not_lt
        intro hl
        have h1 : 2 ^ (c + 1) ∣ 2 ^ c * (2 * m + 1) := by rw [← hm]; exact Nat.dvd_trans (Nat.pow_dvd_pow 2 hl) hd
        rw [Nat.pow_succ] at h1
        have h2 := Nat.dvd_of_mul_dvd_mul_left (Nat.two_pow_pos c) h1
        omega
      · intro hl
        rw [hm]
        exact Nat.dvd_trans (Nat.pow_dvd_pow 2 hl) (Nat.dvd_mul_right _ _)
  have hl49 : Lib.bitLen n - 1 ≤ 48 := by
    apply Nat.le_of_not_lt
    intro hl
    have h1 : 2 ^ 49 ≤ 2 ^ (Lib.bitLen n - 1) := Nat.pow_le_pow_right (by decide) hl
    have h2 : (2 : Nat) ^ 48 < 2 ^ 49 := by decide
    omega
  refine ⟨(hc _ (by omega)).2 (Nat.min_le_left _ _), Nat.le_trans (Nat.pow_le_pow_right (by decide) (Nat.min_le_right _ _)) b2, ?_⟩
  rintro ⟨d1, d2⟩
  have h1 := (hc _ (by omega)).1 d1
  have h2 : min (Lib.ctz 64 a) (Lib.bitLen n - 1) + 1 ≤ Lib.bitLen n - 1 := by
    apply Nat.le_of_lt_succ
    have h3 : 2 ^ (min (Lib.ctz 64 a) (Lib.bitLen n - 1) + 1) < 2 ^ Lib.bitLen n := Nat.lt_of_le_of_lt d2 b3
    have h4 := (Nat.pow_lt_pow_iff_right (a := 2) (by decide)).1 h3
    omega
  omega

end Go.Proofs.YtnjkjickclkmhaaDoor
