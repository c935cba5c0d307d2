/-
  The walk of MacSame: two digests are the same just if all their bytes are.
-/
import Derived.Test.YtefaabmkcgdkiabMc
namespace Go.Proofs.Ytefaabmkcgdkiab
open Go.RowKit
set_option linter.unusedVariables false

theorem zD : Zeroed 23 (u8s (zer 32)) := fun _ _ _ _ _ _ _ => by kernel_rfl
theorem wD : Wide 23 32 := ⟨by kernel_rfl, by kernel_rfl⟩
theorem aD : Arr 23 5 .u8 32 := ⟨by kernel_rfl, by kernel_rfl, by kernel_rfl, by kernel_rfl, by kernel_rfl, by kernel_rfl⟩
theorem index_A (g i : Nat) (I : Int) (hI : I = (i : Int)) (hi : i < 32) (w : World) : (Instr.indexAt 23 (.pointer (some ⟨g, 0, none⟩)) (.int .i64 I)).run Try.prog w = .ok (.pointer (some ⟨g, i, none⟩)) w :=
  index_at (by kernel_rfl) (by kernel_rfl) (fun _ => by kernel_rfl) g i I hI hi w

/-- What differs so far, and one place more. -/
def dif (d x y : Int) : Int := bits .or .u8 d (bits .xor .u8 x y)
theorem xor_bd (x y : Int) (hx : 0 ≤ x ∧ x ≤ 255) (hy : 0 ≤ y ∧ y ≤ 255) : 0 ≤ bits .xor .u8 x y ∧ bits .xor .u8 x y ≤ 255 ∧ (bits .xor .u8 x y = 0 ↔ x = y) := by
  rw [u8_xor x y (by omega) (by omega) (by omega) (by omega)]
  have h1 : x.toNat ^^^ y.toNat < 2 ^ 8 := Nat.xor_lt_two_pow (by omega) (by omega)
  refine ⟨by omega, by omega, ?_⟩
  constructor
  · intro h
    have h2 : x.toNat ^^^ y.toNat = 0 := by omega
    have h3 : x.toNat = y.toNat := by
      have e := Nat.xor_assoc x.toNat x.toNat y.toNat
      rw [h2, Nat.xor_self, Nat.zero_xor, Nat.xor_zero] at e
      exact e.symm
    omega
  · rintro rfl
    simp
theorem dif_bd (d x y : Int) (hd : 0 ≤ d ∧ d ≤ 255) (hx : 0 ≤ x ∧ x ≤ 255) (hy : 0 ≤ y ∧ y ≤ 255) : 0 ≤ dif d x y ∧ dif d x y ≤ 255 ∧ (dif d x y = 0 ↔ d = 0 ∧ x = y) := by
  obtain ⟨h0, h1, h2⟩ := xor_bd x y hx hy
  unfold dif
  rw [u8_or d _ (by omega) (by omega) (by omega) (by omega)]
  have h3 : d.toNat ||| (bits .xor .u8 x y).toNat < 2 ^ 8 := Nat.or_lt_two_pow (by omega) (by omega)
  refine ⟨by omega, by omega, ?_⟩
  constructor
  · intro h
    have h4 : d.toNat ||| (bits .xor .u8 x y).toNat = 0 := by omega
    have h5 := Nat.or_eq_zero_iff.1 h4
    exact ⟨by omega, h2.1 (by omega)⟩
  · rintro ⟨rfl, rfl⟩
    rw [h2.2 rfl]
    rfl
theorem pre_succ (xs ys : List Int) (k : Nat) (hx : k < xs.length) (hy : k < ys.length) : xs.take (k + 1) = ys.take (k + 1) ↔ xs.take k = ys.take k ∧ xs.getD k 0 = ys.getD k 0 := by
  rw [List.take_succ_eq_append_getElem hx, List.take_succ_eq_append_getElem hy]
  constructor
  · intro h
    have h1 := List.append_inj h (by simp; omega)
    refine ⟨h1.1, ?_⟩
    simpa [List.getD, hx, hy] using h1.2
  · rintro ⟨h1, h2⟩
    rw [h1]
    simp only [List.getD, List.getElem?_eq_getElem hx, List.getElem?_eq_getElem hy, Option.getD_some] at h2
    rw [h2]

set_option maxHeartbeats 1000000 in
theorem same_any (xs ys : List Int) (w : World) (hx : xs.length = 32) (hy : ys.length = 32) (hxb : isB xs) (hyb : isB ys) :
    Calls Try.prog 4 #[.agg (u8s xs).toArray, .agg (u8s ys).toArray] w fun e w' => e = .returned (.bool (decide (xs = ys))) ∧ Below w.heap.size w w' := by
  have HX := hide hx
  have HY := hide hy
  have HXB := hide hxb
  have HYB := hide hyb
  clear hx hy hxb hyb
  go_enter Try.func4, Try.ntmps4
  go_wp2_with (refine step_box rfl rfl ?_)
  intro w1 g1 hg1 hle1 hb1
  go_wp2_with (refine step_box rfl rfl ?_)
  intro w2 g2 hg2 hle2 hb2
  have HB := hide (hb1.trans (hb2.mono hb1.size))
  have G1 := hide (hg1.below hb2 hg1.lt)
  have G2 := hide hg2
  clear hg1 hg2 hb1 hb2 hle1 hle2
  go_wp2
  go_loopw [5, 7] (fun d i wr => ∃ (k : Nat) (z : Int), k ≤ 32 ∧ i = .int .i64 k ∧ d = .int .u8 z ∧ (0 ≤ z ∧ z ≤ 255) ∧ (z = 0 ↔ xs.take k = ys.take k) ∧ ∃ q, wr = w2.drewN q) (fun _ i _ => 32 - (intOf i).toNat)
  case atStart => exact ⟨0, 0, by omega, rfl, rfl, by omega, by simp, 0, rfl⟩
  case round =>
    obtain ⟨k, z, hk, rfl, rfl, hz, hzi, q, hq⟩ := hrel
    have HQ := hide hq
    have HZ := hide hz
    have HZI := hide hzi
    clear hq hz hzi
    by_cases hlt : k < 32
    · have c1 : wr.cell? ⟨g1, k, none⟩ = some (.int .u8 (xs.getD k 0)) := by rw [HQ.out, World.cell?_drewN, G1.out.cell]; exact u8s_get _ _ (by rw [HX.out]; exact hlt)
      have c2 : wr.cell? ⟨g2, k, none⟩ = some (.int .u8 (ys.getD k 0)) := by rw [HQ.out, World.cell?_drewN, G2.out.cell]; exact u8s_get _ _ (by rw [HY.out]; exact hlt)
      have x1 := index_A g1 k (k : Int) rfl hlt
      have x2 := index_A g2 k (k : Int) rfl hlt
      have hlt' : (k : Int) < 32 := by omega
      have HD := hide (dif_bd z (xs.getD k 0) (ys.getD k 0) HZ.out (HXB.out.get k) (HYB.out.get k))
      have HP := hide (pre_succ xs ys k (by rw [HX.out]; exact hlt) (by rw [HY.out]; exact hlt))
      revert c1 c2 HD HP
      generalize xs.getD k 0 = x
      generalize ys.getD k 0 = y
      intro c1 c2 HD HP
      go_wp2_with fail
      go_quiet (fail)
      go_wp2
      refine ⟨⟨k + 1, dif z x y, by omega, by go_num, rfl, ⟨HD.out.1, HD.out.2.1⟩, ?_, q + nq, ?_⟩, ?_⟩
      · rw [HD.out.2.2, HP.out, HZI.out]
      · rw [HQ.out, World.drewN_drewN]
      · simp [intOf]; omega
    · obtain rfl : k = 32 := by omega
      have hzz : decide (z = 0) = decide (xs = ys) := by
        have h1 := HZI.out
        rw [List.take_of_length_le (by rw [HX.out]; omega), List.take_of_length_le (by rw [HY.out]; omega)] at h1
        exact decide_eq_decide.2 h1
      have HZZ := hide hzz
      clear hzz
      go_wp2
      go_ret
      refine ⟨?_, ?_⟩
      · rw [← HZZ.out]
        first | rfl | (congr 2; exact Bool.beq_eq_decide_eq _ _) | skip
      · rw [HQ.out]; exact below_drewN HB.out q

end Go.Proofs.Ytefaabmkcgdkiab
