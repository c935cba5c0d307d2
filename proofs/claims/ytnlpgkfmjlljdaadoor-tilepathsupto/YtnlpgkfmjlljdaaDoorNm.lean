/-
  The bytes of a number, hash.putLength, hash.padding.
-/
import Derived.Test.YtnlpgkfmjlljdaaDoorMe
namespace Go.Proofs.YtnlpgkfmjlljdaaDoor
open Go.RowKit
set_option linter.unusedVariables false

/-- The bytes of a number, the highest first. -/
def be (v : Int) (n : Nat) : List Int := (List.range n).map fun i => v / 256 ^ (n - 1 - i) % 256
theorem be_length (v : Int) (n : Nat) : (be v n).length = n := by simp [be]
theorem be_isB (v : Int) (n : Nat) : isB (be v n) := by
  intro x hx
  simp only [be, List.mem_map, List.mem_range] at hx
  obtain ⟨i, _, rfl⟩ := hx
  omega
theorem be_get (v : Int) (n k : Nat) (h : k < n) : (be v n).getD k 0 = v / 256 ^ (n - 1 - k) % 256 := by simp [be, List.getD, h]

theorem pow2_8 (m : Nat) : (2 : Int) ^ (8 * m) = 256 ^ m := by rw [Int.pow_mul]; rfl

theorem spl_snoc (cs vs : List Value) (v : Value) (o : Nat) (h : o + vs.length < cs.length) : (spl cs vs o).set (o + vs.length) v = spl cs (vs ++ [v]) o := by
  unfold spl
  rw [List.set_append_right _ _ (by simp; omega)]
  have e : o + vs.length - (cs.take o ++ vs).length = 0 := by simp; omega
  rw [e, List.drop_eq_getElem_cons h]
  simp [Nat.add_assoc]
theorem spl_length (cs vs : List Value) (o : Nat) (h : o + vs.length ≤ cs.length) : (spl cs vs o).length = cs.length := by
  simp [spl]; omega
theorem u8s_take_succ (B : List Int) (k : Nat) (h : k < B.length) : u8s (B.take (k + 1)) = u8s (B.take k) ++ [.int .u8 (B.getD k 0)] := by
  rw [List.take_succ_eq_append_getElem h, u8s_app]
  congr 1
  simp [u8s, List.getD, h]

set_option maxHeartbeats 1000000 in
theorem putLength_any (g off len cap : Nat) (t : TypeId) (cs : List Value) (v : Int) (w : World) (hg : Blk w g t cs) (hl : 8 ≤ len) (ho : off + len ≤ cs.length) (hv : 0 ≤ v) (hv2 : v < 18446744073709551616) :
    Calls Tryd.prog 119 #[.slice (some ⟨g, off, none⟩) len cap, .int .u64 v] w fun e w' => e = .returned (.tuple #[]) ∧ Blk w' g t (spl cs (u8s (be v 8)) off) ∧ But g w w' := by
  go_enter Tryd.func119, Tryd.ntmps119
  go_wp2
  go_loopw [5] (fun i wr => ∃ k : Nat, k ≤ 8 ∧ i = .int .i64 k ∧ Blk wr g t (spl cs (u8s ((be v 8).take k)) off) ∧ But g w wr) (fun i _ => 8 - (intOf i).toNat)
  case atStart => exact ⟨0, by omega, rfl, by simpa [spl, u8s] using hg, But.refl _ _⟩
  case round =>
    obtain ⟨k, hk, rfl, hr1, hb1⟩ := hrel
    have HR := hide hr1
    have HB := hide hb1
    clear hr1 hb1 hg
    by_cases hlt : k < 8
    · have hk8 : ((be v 8).take k).length = k := by simp [be_length]; omega
      have hlen : (spl cs (u8s ((be v 8).take k)) off).length = cs.length := spl_length _ _ _ (by rw [u8s_length, hk8]; omega)
      obtain ⟨old, hcell⟩ : ∃ old, wr.cell? ⟨g, off + k, none⟩ = some old := ⟨_, by rw [HR.out.cell, List.getElem?_eq_getElem (by omega)]⟩
      have hfree : wr.frozen? ⟨g, off + k, none⟩ = false := HR.out.free _
      have HK8 := hide hk8
      clear hk8 hlen
      have hklen : (k : Int) < (len : Int) := by omega
      go_wp2
      refine ⟨⟨k + 1, by omega, by go_num, ?_, HB.out.trans (But.setCell _ _ _ _)⟩, ?_⟩
      · have e := HR.out.set (off + k) (.int .u8 ((be v 8).getD k 0))
        have e2 := spl_snoc cs (u8s ((be v 8).take k)) (.int .u8 ((be v 8).getD k 0)) off (by rw [u8s_length, HK8.out]; omega)
        rw [u8s_length, HK8.out, ← u8s_take_succ _ _ (by rw [be_length]; omega)] at e2
        rw [e2, be_get v 8 k hlt, ← pow2_8, show 8 * (8 - 1 - k) = 56 - 8 * k by omega] at e
        exact e
      · simp [intOf]; omega
    · obtain rfl : k = 8 := by omega
      go_wp2
      go_end0
      refine ⟨rfl, ?_, HB.out⟩
      have := HR.out
      rwa [List.take_of_length_le (by rw [be_length]; exact Nat.le_refl _)] at this

theorem Blk.sl0 {w : World} {g : Nat} {t : TypeId} {xs : List Int} (h : Blk w g t (u8s xs)) (hb : isB xs) (hl : xs.length ≤ 140737488355328) : Sl w (some ⟨g, 0, none⟩) xs.length xs.length xs :=
  h.sl 0 xs.length xs (by rw [List.drop_zero, List.take_of_length_le (by rw [u8s_length]; exact Nat.le_refl _)]) hb hl (Nat.le_refl _) (by omega)
theorem be_sl {w : World} {g n : Nat} {t : TypeId} {v : Int} (h : Blk w g t (u8s (be v n))) (hn : n ≤ 64) : Sl w (some ⟨g, 0, none⟩) n n (be v n) := by
  have := h.sl0 (be_isB v n) (by rw [be_length]; omega)
  rwa [be_length] at this

/-- How many noughts the padding of n bytes has. -/
def padZ (n : Nat) : Nat := (119 - n % 64) % 64
/-- The padding of n bytes. -/
def pad (n : Nat) : List Int := 128 :: (zer (padZ n) ++ be (8 * (n : Int)) 8)
theorem pad_length (n : Nat) : (pad n).length = padZ n + 9 := by simp [pad, zer_length, be_length]
theorem pad_isB (n : Nat) : isB (pad n) := by
  intro x hx
  rcases List.mem_cons.1 hx with rfl | hx
  · omega
  · exact ((zer_isB _).append (be_isB _ _)) x hx
theorem padZ_lt (n : Nat) : padZ n < 64 := by unfold padZ; omega
theorem pad_spl (n : Nat) : spl ((u8s (zer (padZ n + 9))).set 0 (.int .u8 128)) (u8s (be (8 * (n : Int)) 8)) (1 + padZ n) = u8s (pad n) := by
  have e1 : zer (padZ n + 9) = 0 :: (zer (padZ n) ++ zer 8) := by
    unfold zer
    rw [show padZ n + 9 = (padZ n + 8) + 1 by omega, List.replicate_succ, List.replicate_append_replicate]
  rw [e1, u8s_set, List.set_cons_zero]
  unfold spl
  rw [u8s_length, be_length, show (1 + padZ n + 8) = (padZ n + 8) + 1 by omega, show 1 + padZ n = padZ n + 1 by omega]
  simp only [u8s, List.map_cons, List.take_succ_cons, List.drop_succ_cons, List.map_append, pad]
  rw [List.take_append_of_le_length (by simp [zer]), List.take_of_length_le (by simp [zer]), List.drop_of_length_le (by simp [zer])]
  simp

set_option maxHeartbeats 1000000 in
theorem padding_any (n : Nat) (w : World) (hn : n ≤ 2305843009213693951) :
    Calls Tryd.prog 103 #[.int .i64 n] w fun e w' => ∃ g, e = .returned (.slice (some ⟨g, 0, none⟩) (padZ n + 9) (padZ n + 9)) ∧ w.heap.size ≤ g ∧ Blk w' g 5 (u8s (pad n)) ∧ Below w.heap.size w w' := by
  have hz : ((119 : Int) - (n : Int)) % 64 = (padZ n : Int) := by unfold padZ; omega
  have hz2 : ((119 : Int) - (n : Int) % 64) % 64 = (padZ n : Int) := by unfold padZ; omega
  have hp := padZ_lt n
  have HP := hide (pad_spl n)
  revert hz hz2 hp HP
  have HL := hide (pad_length n)
  generalize padZ n = z at *
  intro hz hz2 hp HP
  go_enter Tryd.func103, Tryd.ntmps103
  go_wp2_with (refine step_make (z + 9) rfl rfl rfl (by omega) (by omega) (by omega) ?_)
  intro w1 g hg hle hb
  have c0 : w1.cell? ⟨g, 0, none⟩ = some (.int .u8 0) := by rw [hg.cell]; rfl
  have f0 : w1.frozen? ⟨g, 0, none⟩ = false := hg.free 0
  have HG := hide (hg.set 0 (.int .u8 128))
  have HB := hide (hb.trans ((But.setCell w1 g 0 (.int .u8 128)).below hle))
  clear hg hb
  have hm : ((n : Int) * 8) % 18446744073709551616 = 8 * (n : Int) := by omega
  have hm2 : (8 * (n : Int)) % 18446744073709551616 = 8 * (n : Int) := by omega
  go_wp2_with (go_at_call 119; refine (putLength_any _ _ _ _ _ _ _ _ HG.out (by omega) (by rw [List.length_set, u8s_length, zer_length]; omega) (by omega) (by omega)).mono ?_; rintro e w2 ⟨rfl, hg2, hbut2⟩)
  go_ret
  rw [HP.out] at hg2
  exact ⟨g, rfl, hle, hg2, HB.out.trans (hbut2.below hle)⟩

end Go.Proofs.YtnlpgkfmjlljdaaDoor
