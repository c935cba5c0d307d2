/-
  bits.Len, and the program's Split.
-/
import Derived.Test.YtlgcjdgcgnlcaaaGreatDoorProg
import Derived.Test.YtlgcjdgcgnlcaaaGreatDoorHf
import Derived.WalkKit
import Derived.WalkSpells
import Derived.WalkLawsBesides
import Derived.Lib.Strings
import Derived.Lib.Small
import Derived.Lib.Walk
namespace Go.Proofs.YtlgcjdgcgnlcaaaGreatDoor
open Go.RowKit
set_option linter.unusedVariables false

theorem tab_at (i : Nat) (h : i < Lib.len8tab.size) : (Lib.len8tab[i]'h).toNat = Lib.bitLen i := by
  have h2 : i < 256 := by rw [← Lib.len8tab_size]; exact h
  have e := Lib.len8_eq ⟨i, h2⟩
  have e2 : Lib.len8tab[i]? = some (Lib.len8tab[i]'h) := by simp [h]
  simp only [Lib.len8, Int.toNat_natCast, e2, Option.getD_some] at e
  omega

theorem wrap_sum (a b d : Nat) (h : b = d + a) (hb : b ≤ 64) : wrap64 ((d : Int) + wrap64 (a : Int)) = (b : Int) := by
  unfold wrap64
  omega
theorem wrap_self (b : Nat) (hb : b ≤ 64) : wrap64 (wrap64 (b : Int)) = (b : Int) := by
  unfold wrap64
  omega
theorem len_end (d : Nat) (x y s : Int) (h0 : 0 ≤ x) (h1 : x ≤ 18446744073709551615) (hy : y.toNat = x.toNat / 2 ^ d) (hd : 2 ^ d ≤ x.toNat) (hs : s = (d : Int)) : wrap64 (s + wrap64 (Lib.bitLen y.toNat : Int)) = (Lib.bitLen x.toNat : Int) := by
  have hx : x.toNat < 2 ^ 64 := by omega
  rw [hy, hs]
  exact wrap_sum _ _ d (Lib.bitLen_shift d x.toNat hd hx) (Lib.bitLen_le x.toNat 64 (Nat.le_refl _) hx)
theorem len_end0 (x : Int) (h0 : 0 ≤ x) (h1 : x < 256) : wrap64 (wrap64 (Lib.bitLen x.toNat : Int)) = (Lib.bitLen x.toNat : Int) := by
  have hx : x.toNat < 2 ^ 64 := by omega
  exact wrap_self _ (Lib.bitLen_le x.toNat 64 (Nat.le_refl _) hx)
set_option maxHeartbeats 4000000 in
set_option maxRecDepth 100000 in
theorem len64_any (x : Int) (w : World) (h0 : 0 ≤ x) (h1 : x ≤ 18446744073709551615) :
    Calls Tryz.prog 119 #[.int .u64 x] w fun e w' => e = .returned (.int .i64 (Lib.bitLen x.toNat)) ∧ w' = w := by
  have hsz := Lib.len8tab_size
  go_enter Tryz.func119, Tryz.ntmps119
  go_wp2
  all_goals (go_ret; refine ⟨congrArg Ending.returned (congrArg (Value.int IntKind.i64) ?_), rfl⟩)
  all_goals rw [tab_at]
  · exact len_end 56 x _ _ h0 h1 (by show _ = x.toNat / 72057594037927936; omega) (by show 72057594037927936 ≤ x.toNat; omega) rfl
  · exact len_end 48 x _ _ h0 h1 (by show _ = x.toNat / 281474976710656; omega) (by show 281474976710656 ≤ x.toNat; omega) rfl
  · exact len_end 40 x _ _ h0 h1 (by show _ = x.toNat / 1099511627776; omega) (by show 1099511627776 ≤ x.toNat; omega) rfl
  · exact len_end 32 x _ _ h0 h1 (by show _ = x.toNat / 4294967296; omega) (by show 4294967296 ≤ x.toNat; omega) rfl
  · exact len_end 24 x _ _ h0 h1 (by show _ = x.toNat / 16777216; omega) (by show 16777216 ≤ x.toNat; omega) rfl
  · exact len_end 16 x _ _ h0 h1 (by show _ = x.toNat / 65536; omega) (by show 65536 ≤ x.toNat; omega) rfl
  · exact len_end 8 x _ _ h0 h1 (by show _ = x.toNat / 256; omega) (by show 256 ≤ x.toNat; omega) rfl
  · exact len_end0 x h0 (by omega)

theorem len_any (x : Int) (w : World) (h0 : 0 ≤ x) (h1 : x ≤ 18446744073709551615) :
    Calls Tryz.prog 95 #[.int .u64 x] w fun e w' => e = .returned (.int .i64 (Lib.bitLen x.toNat)) ∧ w' = w := by
  go_enter Tryz.func95, Tryz.ntmps95
  go_wp2_with (go_at_call 119; refine (len64_any x _ h0 h1).mono ?_; rintro e w' ⟨rfl, rfl⟩)
  go_ret
  exact ⟨rfl, rfl⟩

theorem pow_wrap (b h : Nat) (hh : h = 2 ^ (b - 1)) (hb : h ≤ 9223372036854775807) : wrap64 (2 ^ (b - 1)) = (h : Int) := by
  have e : ((2 : Int) ^ (b - 1)) = (h : Int) := by rw [hh]; simp [Int.natCast_pow]
  rw [e]
  unfold wrap64
  omega

end Go.Proofs.YtlgcjdgcgnlcaaaGreatDoor
