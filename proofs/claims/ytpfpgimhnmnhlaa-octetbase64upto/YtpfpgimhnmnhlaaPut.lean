/-
  Contracts of the laying functions: octet.widened, putNumber, PutUint16, PutUint32, PutUint64, PutDigest, the document's Number.
-/
import Derived.Test.YtpfpgimhnmnhlaaMem
import Derived.Deep.RegionLaw
namespace Go.Proofs.Ytpfpgimhnmnhlaa
open Go.RowKit
set_option linter.unusedVariables false

theorem splice_zer (ys : List Int) (n m : Nat) (h : ys.length = m) : splice (zer (m + n)) 0 (ys.take m) = ys ++ zer n := by
  rw [← h, List.take_length]
  simp [splice, zer]

set_option maxHeartbeats 400000 in
theorem widened_any (a : Option Addr) (len cap : Nat) (xs : List Int) (n : Nat) (w : World) (hs : Sl w a len cap xs) (hn : n ≤ 64) :
    Calls Try.prog 34 #[.slice a len cap, .int .i64 n] w fun e w' => ∃ g, e = .returned (.slice (some ⟨g, 0, none⟩) (len + n) (len + n)) ∧ w.heap.size ≤ g ∧ Row w' g 5 (xs ++ zer n) ∧ Below w.heap.size w w' := by
  have hr := hs.hreach
  have HS := hide hs
  clear hs
  go_enter Try.func34, Try.ntmps34
  go_wp2_with (refine step_make (len + n) rfl rfl rfl (by omega) (by omega) (by omega) ?_)
  intro w1 g hrow hg hb
  go_wp2_with (refine step_copy rfl rfl rfl (HS.out.below hb) g 0 len (by omega) hrow (fun _ => rfl) (by rw [zer_length]; omega) ?_)
  intro w2 hrow2 hbut
  rw [splice_zer xs n len HS.out.hlen] at hrow2
  go_wp2
  go_ret
  exact ⟨g, rfl, hg, hrow2, hb.trans (hbut.below hg)⟩

/-- The bytes of a number, the highest first. -/
def be (v : Int) (n : Nat) : List Int := (List.range n).map fun i => v / 256 ^ (n - 1 - i) % 256
theorem be_length (v : Int) (n : Nat) : (be v n).length = n := by simp [be]
theorem be_isB (v : Int) (n : Nat) : isB (be v n) := by
  intro x hx
  simp only [be, List.mem_map, List.mem_range] at hx
  obtain ⟨i, _, rfl⟩ := hx
  omega
theorem be_get (v : Int) (n k : Nat) (h : k < n) : (be v n).getD k 0 = v / 256 ^ (n - 1 - k) % 256 := by simp [be, List.getD, h]

theorem pow2_8 (m : Nat) : (2 : Int) ^ (8 * m) = 256 ^ m := by rw [Int.pow_mul]; rfl

/-- One byte more of B laid over noughts. -/
theorem fill_step (xs B : List Int) (len n k : Nat) (hx : xs.length = len) (hB : B.length = n) (hk : k < n) :
    (xs ++ (B.take k ++ zer (n - k))).set (len + k) (B.getD k 0) = xs ++ (B.take (k + 1) ++ zer (n - (k + 1))) := by
  subst hx
  rw [List.set_append_right _ _ (by omega), Nat.add_sub_cancel_left]
  congr 1
  have hz : zer (n - k) = 0 :: zer (n - (k + 1)) := by
    have : n - k = (n - (k + 1)) + 1 := by omega
    rw [this]; simp [zer, List.replicate_succ]
  rw [List.set_append_right _ _ (by simp; omega), hz]
  have e : k - (B.take k).length = 0 := by simp; omega
  have e2 : B.getD k 0 = B[k] := by simp [List.getD, hB, hk]
  rw [e, e2, List.take_succ_eq_append_getElem (by omega), List.append_assoc]
  rfl

set_option maxHeartbeats 400000 in
theorem putNumber_any (a : Option Addr) (len cap : Nat) (xs : List Int) (v : Int) (n : Nat) (w : World) (hs : Sl w a len cap xs) (hn : n ≤ 8) (hv : 0 ≤ v) (hv2 : v < 18446744073709551616) :
    Calls Try.prog 33 #[.slice a len cap, .int .u64 v, .int .i64 n] w fun e w' => ∃ g, e = .returned (.slice (some ⟨g, 0, none⟩) (len + n) (len + n)) ∧ w.heap.size ≤ g ∧ Row w' g 5 (xs ++ be v n) ∧ Below w.heap.size w w' := by
  have hr := hs.hreach
  have HS := hide hs
  clear hs
  go_enter Try.func33, Try.ntmps33
  go_wp2_with (go_at_call 34; refine (widened_any _ _ _ xs n _ HS.out (by omega)).mono ?_; rintro e w1 ⟨g, rfl, hg, hrow, hb⟩)
  go_loopw [13] (fun i wr => ∃ k : Nat, k ≤ n ∧ i = .int .i64 k ∧ Row wr g 5 (xs ++ ((be v n).take k ++ zer (n - k))) ∧ Below w.heap.size w wr) (fun i _ => n - (intOf i).toNat)
  case atStart => exact ⟨0, by omega, rfl, by simpa using hrow, hb⟩
  case round =>
    obtain ⟨k, hk, rfl, hr1, hb1⟩ := hrel
    by_cases hlt : k < n
    · have hl1 : (xs ++ ((be v n).take k ++ zer (n - k))).length = len + n := by simp [be_length, zer_length, HS.out.hlen]; omega
      have hcell := hr1.cell (len + k) (by omega)
      have hfree := hr1.free (len + k)
      clear hl1
      have HE := hide (fill_step xs (be v n) len n k HS.out.hlen (be_length v n) hlt)
      go_wp2
      go_roundw
      case rel =>
        have e := hr1.set (len + k) ((be v n).getD k 0)
        rw [HE.out, be_get v n k hlt, ← pow2_8] at e
        exact ⟨k + 1, by omega, by go_num, e, hb1.setCell hg _⟩
      case measure => simp [intOf]; omega
    · have hkn : k = n := by omega
      subst hkn
      go_wp2
      go_ret
      refine ⟨g, rfl, hg, ?_, hb1⟩
      have e : xs ++ (List.take k (be v k) ++ zer (k - k)) = xs ++ be v k := by
        rw [List.take_of_length_le (by rw [be_length]; exact Nat.le_refl _)]; simp [zer]
      rw [e] at hr1
      exact hr1

set_option maxHeartbeats 400000 in
theorem putUint16_any (a : Option Addr) (len cap : Nat) (xs : List Int) (v : Int) (w : World) (hs : Sl w a len cap xs) (hv : 0 ≤ v) (hv2 : v < 65536) :
    Calls Try.prog 10 #[.slice a len cap, .int .u16 v] w fun e w' => ∃ g, e = .returned (.slice (some ⟨g, 0, none⟩) (len + 2) (len + 2)) ∧ w.heap.size ≤ g ∧ Row w' g 5 (xs ++ be v 2) ∧ Below w.heap.size w w' := by
  have HS := hide hs
  clear hs
  go_enter Try.func10, Try.ntmps10
  go_wp2_with (go_at_call 33; refine (putNumber_any _ _ _ xs v 2 _ HS.out (by omega) hv (by omega)).mono ?_; rintro e w1 ⟨g, rfl, hg, hrow, hb⟩)
  go_ret
  exact ⟨g, rfl, hg, hrow, hb⟩

set_option maxHeartbeats 400000 in
theorem putUint32_any (a : Option Addr) (len cap : Nat) (xs : List Int) (v : Int) (w : World) (hs : Sl w a len cap xs) (hv : 0 ≤ v) (hv2 : v < 4294967296) :
    Calls Try.prog 12 #[.slice a len cap, .int .u32 v] w fun e w' => ∃ g, e = .returned (.slice (some ⟨g, 0, none⟩) (len + 4) (len + 4)) ∧ w.heap.size ≤ g ∧ Row w' g 5 (xs ++ be v 4) ∧ Below w.heap.size w w' := by
  have HS := hide hs
  clear hs
  go_enter Try.func12, Try.ntmps12
  go_wp2_with (go_at_call 33; refine (putNumber_any _ _ _ xs v 4 _ HS.out (by omega) hv (by omega)).mono ?_; rintro e w1 ⟨g, rfl, hg, hrow, hb⟩)
  go_ret
  exact ⟨g, rfl, hg, hrow, hb⟩

set_option maxHeartbeats 400000 in
theorem putUint64_any (a : Option Addr) (len cap : Nat) (xs : List Int) (v : Int) (w : World) (hs : Sl w a len cap xs) (hv : 0 ≤ v) (hv2 : v < 18446744073709551616) :
    Calls Try.prog 13 #[.slice a len cap, .int .u64 v] w fun e w' => ∃ g, e = .returned (.slice (some ⟨g, 0, none⟩) (len + 8) (len + 8)) ∧ w.heap.size ≤ g ∧ Row w' g 5 (xs ++ be v 8) ∧ Below w.heap.size w w' := by
  have HS := hide hs
  clear hs
  go_enter Try.func13, Try.ntmps13
  go_wp2_with (go_at_call 33; refine (putNumber_any _ _ _ xs v 8 _ HS.out (by omega) hv hv2).mono ?_; rintro e w1 ⟨g, rfl, hg, hrow, hb⟩)
  go_ret
  exact ⟨g, rfl, hg, hrow, hb⟩

/-- One byte more of B, from its end. -/
theorem back_step (B : List Int) (n k : Nat) (hB : B.length = n) (hk : k < n) : (zer (k + 1) ++ B.drop (k + 1)).set k (B.getD k 0) = zer k ++ B.drop k := by
  have hz : zer (k + 1) = zer k ++ [0] := by simp [zer, List.replicate_succ']
  rw [hz, List.append_assoc, List.set_append_right _ _ (by simp [zer]), List.drop_eq_getElem_cons (i := k) (by omega)]
  have e : k - (zer k).length = 0 := by simp [zer]
  rw [e]
  simp [List.getD, hB, hk]

theorem div_pow (v : Int) (m : Nat) : v / 256 ^ m / 256 = v / 256 ^ (m + 1) := by
  rw [Int.pow_succ, Int.ediv_ediv_of_nonneg (Int.le_of_lt (Int.pow_pos (by decide)))]

theorem quo256 (v : Int) (m : Nat) (hv : 0 ≤ v) (hv2 : v < 18446744073709551616) : IntKind.u64.wrap ((v / 256 ^ m).tdiv 256) = v / 256 ^ (m + 1) := by
  have h0 : 0 ≤ v / 256 ^ m := Int.ediv_nonneg hv (Int.le_of_lt (Int.pow_pos (by decide)))
  have h1 : v / 256 ^ m ≤ v := Int.ediv_le_self _ hv
  rw [Int.tdiv_eq_ediv_of_nonneg h0, div_pow, IntKind.wrap_u64]
  have h2 : 0 ≤ v / 256 ^ (m + 1) := Int.ediv_nonneg hv (Int.le_of_lt (Int.pow_pos (by decide)))
  have h3 : v / 256 ^ (m + 1) ≤ v := Int.ediv_le_self _ hv
  exact Int.emod_eq_of_lt h2 (by omega)

set_option maxHeartbeats 400000 in
theorem number_ref (v : Int) (n : Nat) (w : World) (hn : n ≤ 8) (hv : 0 ≤ v) (hv2 : v < 18446744073709551616) :
    Calls Try.prog 11 #[.int .u64 v, .int .i64 n] w fun e w' => ∃ g, e = .returned (.slice (some ⟨g, 0, none⟩) n n) ∧ w.heap.size ≤ g ∧ Row w' g 5 (be v n) ∧ Below w.heap.size w w' := by
  go_enter Try.func11, Try.ntmps11
  go_wp2_with (refine step_make n rfl rfl rfl rfl rfl (by omega) ?_)
  intro w1 g hrow hg hb
  go_wp2
  go_loopw [0, 6] (fun vv i wr => ∃ j : Nat, j ≤ n ∧ i = .int .i64 ((j : Int) - 1) ∧ vv = .int .u64 (v / 256 ^ (n - j)) ∧ Row wr g 5 (zer j ++ (be v n).drop j) ∧ Below w.heap.size w wr) (fun _ i _ => (intOf i + 1).toNat)
  case atStart => exact ⟨n, by omega, rfl, by simp, by rw [List.drop_eq_nil_of_le (by rw [be_length]; exact Nat.le_refl _), List.append_nil]; exact hrow, hb⟩
  case round =>
    obtain ⟨j, hj, rfl, rfl, hr1, hb1⟩ := hrel
    by_cases h0 : j = 0
    · subst h0
      go_wp2
      go_ret
      refine ⟨g, rfl, hg, ?_, hb1⟩
      simpa [zer] using hr1
    · obtain ⟨k, rfl⟩ : ∃ k, j = k + 1 := ⟨j - 1, by omega⟩
      have hl1 : (zer (k + 1) ++ (be v n).drop (k + 1)).length = n := by simp [be_length, zer_length]; omega
      have hcell := hr1.cell k (by omega)
      have hfree := hr1.free k
      have HE := hide (back_step (be v n) n k (be_length v n) (by omega))
      have HG := hide (be_get v n k (by omega))
      have ek : (((k + 1 : Nat) : Int) - 1) = (k : Int) := by omega
      rw [ek]
      clear hl1
      go_wp2
      go_roundw
      case rel =>
        have e := hr1.set k ((be v n).getD k 0)
        have en : n - 1 - k = n - (k + 1) := by omega
        rw [HE.out, HG.out, en] at e
        have eq := quo256 v (n - (k + 1)) hv hv2
        have en2 : n - (k + 1) + 1 = n - k := by omega
        rw [en2] at eq
        exact ⟨k, by omega, by go_num, by rw [eq], e, hb1.setCell hg _⟩
      case measure => simp [intOf]

end Go.Proofs.Ytpfpgimhnmnhlaa
