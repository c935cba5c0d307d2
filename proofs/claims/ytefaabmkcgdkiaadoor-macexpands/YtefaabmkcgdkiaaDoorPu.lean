/-
  octet's putNumber, PutUint64; append of a text's bytes.
-/
import Derived.Test.YtefaabmkcgdkiaaDoorPg
import Derived.Test.YtefaabmkcgdkiaaDoorOw
import Derived.Lib.AppendStr
namespace Go.Proofs.YtefaabmkcgdkiaaDoor
open Go.RowKit
set_option linter.unusedVariables false

theorem fill_step (xs B : List Int) (len n k : Nat) (hx : xs.length = len) (hB : B.length = n) (hk : k < n) :
    (xs ++ (B.take k ++ zer (n - k))).set (len + k) (B.getD k 0) = xs ++ (B.take (k + 1) ++ zer (n - (k + 1))) := by
  subst hx
  rw [List.set_append_right _ _ (by omega), Nat.add_sub_cancel_left]
  congr 1
  have hz : zer (n - k) = 0 :: zer (n - (k + 1)) := by
    have : n - k = (n - (k + 1)) + 1 := by omega
    rw [this]; simp [zer, List.replicate_succ]
  rw [List.set_append_right _ _ (by simp; omega), hz]
  have e : k - (B.take k).length = 0 := by simp; omega
  have e2 : B.getD k 0 = B[k] := by simp [List.getD, hB, hk]
  rw [e, e2, List.take_succ_eq_append_getElem (by omega), List.append_assoc]
  rfl

set_option maxHeartbeats 400000 in
theorem putNumber_any (a : Option Addr) (len cap : Nat) (xs : List Int) (v : Int) (n : Nat) (w : World) (hs : Sl w a len cap xs) (hn : n ≤ 8) (hv : 0 ≤ v) (hv2 : v < 18446744073709551616) :
    Calls Tryd.prog 63 #[.slice a len cap, .int .u64 v, .int .i64 n] w fun e w' => ∃ g, e = .returned (.slice (some ⟨g, 0, none⟩) (len + n) (len + n)) ∧ w.heap.size ≤ g ∧ Blk w' g 5 (u8s (xs ++ be v n)) ∧ Below w.heap.size w w' := by
  have hr := hs.hreach
  have HS := hide hs
  clear hs
  go_enter Tryd.func63, Tryd.ntmps63
  go_wp2_with (go_at_call 62; refine (widened_any _ _ _ xs n _ HS.out (by omega)).mono ?_; rintro e w1 ⟨g, rfl, hg, hrow, hb⟩)
  go_loopw [13] (fun i wr => ∃ k : Nat, k ≤ n ∧ i = .int .i64 k ∧ Blk wr g 5 (u8s (xs ++ ((be v n).take k ++ zer (n - k)))) ∧ Below w.heap.size w wr) (fun i _ => n - (intOf i).toNat)
  case atStart => exact ⟨0, by omega, rfl, by simpa using hrow, hb⟩
  case round =>
    obtain ⟨k, hk, rfl, hr1, hb1⟩ := hrel
    by_cases hlt : k < n
    · have hl1 : (xs ++ ((be v n).take k ++ zer (n - k))).length = len + n := by simp [be_length, zer_length, HS.out.hlen]; omega
      have hcell : wr.cell? ⟨g, len + k, none⟩ = some (.int .u8 ((xs ++ ((be v n).take k ++ zer (n - k))).getD (len + k) 0)) := by rw [hr1.cell]; exact u8s_get _ _ (by omega)
      have hfree := hr1.free (len + k)
      clear hl1
      have HE := hide (fill_step xs (be v n) len n k HS.out.hlen (be_length v n) hlt)
      have HG := hide (be_get v n k hlt)
      go_wp2
      go_roundw
      case rel =>
        have e := hr1.set (len + k) (.int .u8 ((be v n).getD k 0))
        rw [u8s_set, HE.out, HG.out, ← pow2_8] at e
        exact ⟨k + 1, by omega, by go_num, e, hb1.setCell hg _⟩
      case measure => simp [intOf]; omega
    · have hkn : k = n := by omega
      subst hkn
      go_wp2
      go_ret
      refine ⟨g, rfl, hg, ?_, hb1⟩
      have e : xs ++ (List.take k (be v k) ++ zer (k - k)) = xs ++ be v k := by
        rw [List.take_of_length_le (by rw [be_length]; exact Nat.le_refl _)]; simp [zer]
      rw [e] at hr1
      exact hr1

set_option maxHeartbeats 400000 in
theorem putUint64_any (a : Option Addr) (len cap : Nat) (xs : List Int) (v : Int) (w : World) (hs : Sl w a len cap xs) (hv : 0 ≤ v) (hv2 : v < 18446744073709551616) :
    Calls Tryd.prog 54 #[.slice a len cap, .int .u64 v] w fun e w' => ∃ g, e = .returned (.slice (some ⟨g, 0, none⟩) (len + 8) (len + 8)) ∧ w.heap.size ≤ g ∧ Blk w' g 5 (u8s (xs ++ be v 8)) ∧ Below w.heap.size w w' := by
  have HS := hide hs
  clear hs
  go_enter Tryd.func54, Tryd.ntmps54
  go_wp2_with (go_at_call 63; refine (putNumber_any _ _ _ xs v 8 _ HS.out (by omega) hv hv2).mono ?_; rintro e w1 ⟨g, rfl, hg, hrow, hb⟩)
  go_ret
  exact ⟨g, rfl, hg, hrow, hb⟩

/-- A text's bytes. -/
def sb (s : ByteArray) : List Int := s.data.toList.map fun b => (b.toNat : Int)
theorem sb_length (s : ByteArray) : (sb s).length = s.size := by
  rw [sb, List.length_map, Array.length_toList]; rfl
theorem sb_isB (s : ByteArray) : isB (sb s) := by
  intro x hx
  obtain ⟨b, _, rfl⟩ := List.mem_map.1 hx
  have := b.toNat_lt
  omega
theorem sb_cells (s : ByteArray) : Lib.strCells s = u8s (sb s) := by
  simp [Lib.strCells, u8s, sb]

theorem step_appendS {dst : Option Tmp} {s x : Operand} {ty : TypeId} {pos : String} {aft : Array Edge} {ops : Array Oper} {rest : List Oper} {a : Act} {w : World} {Q : Exit → Act → World → Prop}
    {B : Nat} {v : Value} {xs : List Int} {t : ByteArray}
    (hs : a.eval s = v) (hx : a.eval x = .string t) (hown : Own w B v xs) (hlen : xs.length + t.size ≤ 140737488355328) (hB : B ≤ w.heap.size)
    (h : ∀ v' w', Own w' B v' (xs ++ sb t) → w.grownBy w' v.ownBlock → (v' = .slice none 0 0 → v = .slice none 0 0) → wpList Tryd.prog ops Q rest (a.put dst v') w') :
    wpList Tryd.prog ops Q (⟨dst, .call { callee := .builtin .append, args := #[s, x], argTypes := #[27, 9] }, ty, pos, aft, none⟩ :: rest) a w := by
  obtain ⟨i0, hi, hz0, hz1, hz2⟩ := info_parts infoB
  refine Lib.wpList_append_own_string _ rfl s x 27 9 rfl B 5 i0 undBs undS hi hz0 hz1 hz2 v _ _ hs hown t hx (by unfold maxLen; omega) hlen hB ?_
  intro v' w' h1 h2 h3
  have hl : (xs ++ sb t).length = xs.length + t.size := by rw [List.length_append, sb_length]
  exact h v' w' (by unfold Own; rw [hl, u8s_app, ← sb_cells]; exact h1) h2 (fun e => (h3.1 e).1)

end Go.Proofs.YtefaabmkcgdkiaaDoor
