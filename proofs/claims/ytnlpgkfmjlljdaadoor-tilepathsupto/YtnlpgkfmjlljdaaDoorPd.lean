/-
  Padding: the program's and the document's; and spoil.
-/
import Derived.Test.YtnlpgkfmjlljdaaDoorNmR
import Derived.Test.YtnlpgkfmjlljdaaDoorOw
namespace Go.Proofs.YtnlpgkfmjlljdaaDoor
open Go.RowKit
set_option linter.unusedVariables false

/-- How long a slice is. -/
def lenP : Value → Nat
  | .slice _ n _ => n
  | _ => 0
theorem pad_step (n k : Nat) (h : k < padZ n) : (n % 64 + (k + 1) + 8) % 64 ≠ 0 := by unfold padZ at h; omega
theorem pad_stop (n : Nat) : (n % 64 + (padZ n + 1) + 8) % 64 = 0 := by unfold padZ; omega

set_option maxRecDepth 100000 in
set_option maxHeartbeats 1000000 in
theorem paddingR_any (n : Nat) (w : World) (hn : n ≤ 2305843009213693951) :
    Calls Tryd.prog 105 #[.int .i64 n] w fun e w' => ∃ v, e = .returned (.tuple #[v, .int .i64 0]) ∧ Own w' w.heap.size v (pad n) ∧ v ≠ .slice none 0 0 ∧ Below w.heap.size w w' := by
  have hn1 : ¬ ((n : Int) < 0) := by omega
  have hn2 : ¬ ((2305843009213693951 : Int) < (n : Int)) := by omega
  go_enter Tryd.func105, Tryd.ntmps105
  go_wp2
  have ho0 : Own (w.alloc (.cells #[.int .u8 128] 5)) w.heap.size (.slice (some ⟨w.heap.size, 0, none⟩) 1 1) [128] :=
    Own.of_blk (Blk.made w 5 (u8s [128])) (Nat.le_refl _) (by decide)
  have hb0 : Below w.heap.size w (w.alloc (.cells #[.int .u8 128] 5)) := (Below.refl _ _).alloc (Nat.le_refl _) _
  have HO0 := hide ho0
  have HB0 := hide hb0
  clear ho0 hb0
  go_loopw [4] (fun v wr => ∃ k : Nat, k ≤ padZ n ∧ Own wr w.heap.size v (128 :: zer k) ∧ v ≠ .slice none 0 0 ∧ Below w.heap.size w wr) (fun v _ => padZ n + 1 - (lenP v))
  case atStart => exact ⟨0, by omega, HO0.out, (by intro h; cases h), HB0.out⟩
  case round =>
    clear HO0 HB0
    obtain ⟨k, hk, ho, hne, hb⟩ := hrel
    have hp := padZ_lt n
    obtain ⟨g, cap, e, hgB, hsl⟩ := ho.sl (by intro x hx; rcases List.mem_cons.1 hx with rfl | hx; omega; exact zer_isB _ x hx) (by simp [zer_length]; omega) hne
    have hl : (128 :: zer k : List Int).length = k + 1 := by simp [zer_length]
    rw [hl] at e hsl
    have HO := hide ho
    have HN := hide hne
    have HB := hide hb
    have HE := hide e
    clear ho hne hb
    by_cases hlt : k < padZ n
    · subst e
      have hs := pad_step n k hlt
      have hs2 : (((n : Int) % 64 + ((k : Int) + 1) + 8) % 64 == 0) = false := by simp; omega
      have hr : Sl (wr.alloc (.cells #[.int .u8 0] 5)) (some ⟨wr.heap.size, 0, none⟩) 1 1 [0] := (Blk.made wr 5 (u8s [0])).sl 0 1 [0] rfl (by simp [isB]) (by simp) (by simp) (by omega)
      go_wp2_with (refine step_append rfl rfl rfl (HO.out.alloc _) hr (by rw [hl]; omega) (by have := HB.out.size; simp; omega) ?_)
      intro v2 w2 ho2 hg2 hn2
      have hb2 : Below w.heap.size w w2 := (HB.out.alloc HB.out.size _).trans (Below.of_grown hg2 (by have := HB.out.size; simp; omega) HO.out.lt)
      have hz : zer k ++ [0] = zer (k + 1) := by simp [zer, List.replicate_succ']
      rw [hz] at ho2
      have hm : lenP v2 = k + 2 := by
        obtain ⟨g', c', e', _⟩ := ho2.sl (by intro x hx; rcases List.mem_cons.1 hx with rfl | hx; omega; exact zer_isB _ x hx) (by simp [zer_length]; omega) hn2
        rw [e']
        simp [lenP, zer_length]
      go_wp2
      refine ⟨⟨k + 1, by omega, ho2, hn2, hb2⟩, ?_⟩
      simp only [lenP] at hm ⊢
      omega
    · obtain rfl : k = padZ n := by omega
      subst e
      have hs := pad_stop n
      have hs2 : (((n : Int) % 64 + ((padZ n : Int) + 1) + 8) % 64 == 0) = true := by simp; omega
      have hm : ((n : Int) * 8) % 18446744073709551616 = 8 * (n : Int) := by omega
      go_wp2_with (first | (go_at_call 120; refine (number_ref _ 8 _ (by omega) (by omega) (by omega)).mono ?_; rintro e w3 ⟨g3, rfl, hle3, hg3, hb3⟩; have HS3 := hide (be_sl hg3 (by omega))) | (refine step_append rfl rfl rfl (HO.out.below hb3) HS3.out (by rw [hl]; omega) (Nat.le_trans HB.out.size hb3.size) ?_; intro v4 w4 ho4 hg4 hn4))
      go_ret2
      refine ⟨v4, rfl, ?_, ?_, ?_⟩
      · have e : pad n = 128 :: zer (padZ n) ++ be ((n : Int) * 8) 8 := by unfold pad; rw [Int.mul_comm]; rfl
        rw [e]
        exact ho4
      · intro h
        exact HN.out (hn4 h).1
      · exact (HB.out.trans (hb3.mono HB.out.size)).grown hg4 (Nat.le_trans HB.out.size hb3.size) HO.out.lt

theorem paddingR_bad (n : Int) (w : World) (e : Int) (he : (n < 0 ∧ e = 2) ∨ (2305843009213693951 < n ∧ e = 3)) :
    Calls Tryd.prog 105 #[.int .i64 n] w fun r w' => r = .returned (.tuple #[.slice none 0 0, .int .i64 e]) ∧ w = w' := by
  rcases he with ⟨h, rfl⟩ | ⟨h, rfl⟩
  · go_enter Tryd.func105, Tryd.ntmps105
    go_wp2
    go_ret2
    exact ⟨rfl, rfl⟩
  · have h0 : ¬ n < 0 := by omega
    go_enter Tryd.func105, Tryd.ntmps105
    go_wp2
    go_ret2
    exact ⟨rfl, rfl⟩

end Go.Proofs.YtnlpgkfmjlljdaaDoor
