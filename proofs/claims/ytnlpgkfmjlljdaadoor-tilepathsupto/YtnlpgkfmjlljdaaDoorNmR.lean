/-
  The document's Number.
-/
import Derived.Test.YtnlpgkfmjlljdaaDoorNm
namespace Go.Proofs.YtnlpgkfmjlljdaaDoor
open Go.RowKit
set_option linter.unusedVariables false

/-- One byte more of B, from its end. -/
theorem back_step (B : List Int) (n k : Nat) (hB : B.length = n) (hk : k < n) : (zer (k + 1) ++ B.drop (k + 1)).set k (B.getD k 0) = zer k ++ B.drop k := by
  have hz : zer (k + 1) = zer k ++ [0] := by simp [zer, List.replicate_succ']
  rw [hz, List.append_assoc, List.set_append_right _ _ (by simp [zer]), List.drop_eq_getElem_cons (i := k) (by omega)]
  have e : k - (zer k).length = 0 := by simp [zer]
  rw [e]
  simp [List.getD, hB, hk]

theorem div_pow (v : Int) (m : Nat) : v / 256 ^ m / 256 = v / 256 ^ (m + 1) := by
  rw [Int.pow_succ, Int.ediv_ediv_of_nonneg (Int.le_of_lt (Int.pow_pos (by decide)))]

theorem quo256 (v : Int) (m : Nat) (hv : 0 ≤ v) (hv2 : v < 18446744073709551616) : IntKind.u64.wrap ((v / 256 ^ m).tdiv 256) = v / 256 ^ (m + 1) := by
  have h0 : 0 ≤ v / 256 ^ m := Int.ediv_nonneg hv (Int.le_of_lt (Int.pow_pos (by decide)))
  have h1 : v / 256 ^ m ≤ v := Int.ediv_le_self _ hv
  rw [Int.tdiv_eq_ediv_of_nonneg h0, div_pow, IntKind.wrap_u64]
  have h2 : 0 ≤ v / 256 ^ (m + 1) := Int.ediv_nonneg hv (Int.le_of_lt (Int.pow_pos (by decide)))
  have h3 : v / 256 ^ (m + 1) ≤ v := Int.ediv_le_self _ hv
  exact Int.emod_eq_of_lt h2 (by omega)

set_option maxHeartbeats 400000 in
theorem number_ref (v : Int) (n : Nat) (w : World) (hn : n ≤ 8) (hv : 0 ≤ v) (hv2 : v < 18446744073709551616) :
    Calls Tryd.prog 120 #[.int .u64 v, .int .i64 n] w fun e w' => ∃ g, e = .returned (.slice (some ⟨g, 0, none⟩) n n) ∧ w.heap.size ≤ g ∧ Blk w' g 5 (u8s (be v n)) ∧ Below w.heap.size w w' := by
  go_enter Tryd.func120, Tryd.ntmps120
  go_wp2_with (refine step_make n rfl rfl rfl rfl rfl (by omega) ?_)
  intro w1 g hrow hg hb
  go_wp2
  go_loopw [0, 6] (fun vv i wr => ∃ j : Nat, j ≤ n ∧ i = .int .i64 ((j : Int) - 1) ∧ vv = .int .u64 (v / 256 ^ (n - j)) ∧ Blk wr g 5 (u8s (zer j ++ (be v n).drop j)) ∧ Below w.heap.size w wr) (fun _ i _ => (intOf i + 1).toNat)
  case atStart => exact ⟨n, by omega, rfl, by simp, by rw [List.drop_eq_nil_of_le (by rw [be_length]; exact Nat.le_refl _), List.append_nil]; exact hrow, hb⟩
  case round =>
    obtain ⟨j, hj, rfl, rfl, hr1, hb1⟩ := hrel
    by_cases h0 : j = 0
    · subst h0
      go_wp2
      go_ret
      refine ⟨g, rfl, hg, ?_, hb1⟩
      simpa [zer] using hr1
    · obtain ⟨k, rfl⟩ : ∃ k, j = k + 1 := ⟨j - 1, by omega⟩
      have hl1 : (zer (k + 1) ++ (be v n).drop (k + 1)).length = n := by simp [be_length, zer_length]; omega
      have hcell : wr.cell? ⟨g, k, none⟩ = some (.int .u8 ((zer (k + 1) ++ (be v n).drop (k + 1)).getD k 0)) := by rw [hr1.cell]; exact u8s_get _ _ (by omega)
      have hfree := hr1.free k
      have HE := hide (back_step (be v n) n k (be_length v n) (by omega))
      have HG := hide (be_get v n k (by omega))
      have ek : (((k + 1 : Nat) : Int) - 1) = (k : Int) := by omega
      rw [ek]
      clear hl1
      go_wp2
      go_roundw
      case rel =>
        have e := hr1.set k (.int .u8 ((be v n).getD k 0))
        have en : n - 1 - k = n - (k + 1) := by omega
        rw [u8s_set, HE.out, HG.out, en] at e
        have eq := quo256 v (n - (k + 1)) hv hv2
        have en2 : n - (k + 1) + 1 = n - k := by omega
        rw [en2] at eq
        exact ⟨k, by omega, by go_num, by rw [eq], e, hb1.setCell hg _⟩
      case measure => simp [intOf]


end Go.Proofs.YtnlpgkfmjlljdaaDoor
