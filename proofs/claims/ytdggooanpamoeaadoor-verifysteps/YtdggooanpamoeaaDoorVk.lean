/-
  A path in memory of its own (lent), and whether it is still what it was (kept).
-/
import Derived.Test.YtdggooanpamoeaaDoorVi
namespace Go.Proofs.YtdggooanpamoeaaDoor
open Go.RowKit
set_option linter.unusedVariables false

set_option maxRecDepth 100000 in
theorem lent_any (a : Option Addr) (l cap : Nat) (xs : List Int) (w : World) (hs : Ds w a l cap xs) :
    Calls Tryd.prog 7 #[.slice a l cap] w fun r w' => ∃ a' cap', r = .returned (.slice a' l cap') ∧ Ds w' a' l cap' xs ∧ Below w.heap.size w w' := by
  have HS := hide hs
  have hre := hs.hreach
  clear hs
  go_enter Tryd.func7, Tryd.ntmps7
  go_wp2_with (refine step_appendD (B := w.heap.size) (n := 0) (xs := []) rfl rfl rfl (down_empty w) (HS.out.below ((Below.refl _ _).alloc (Nat.le_refl _) _)) (by omega) (by simp) ?_)
  intro v1 w1 ho1 hg1
  rw [Nat.zero_add, List.nil_append] at ho1
  obtain ⟨a', cap', rfl, hd, _⟩ := ho1.ds HS.out.hbyte hre
  have hb : Below w.heap.size w w1 := ((Below.refl w.heap.size w).alloc (Nat.le_refl _) (.cells #[] 26)).trans (Below.of_grown hg1 (by simp) (down_empty w).lt)
  go_wp2
  go_ret
  exact ⟨a', cap', rfl, hd, hb⟩
set_option maxRecDepth 100000 in
set_option maxHeartbeats 1000000 in
theorem kept_any (a : Option Addr) (n cap : Nat) (a' : Option Addr) (cap' : Nat) (xs : List Int) (w : World) (hs : Ds w a n cap xs) (hs' : Ds w a' n cap' xs) :
    Calls Tryd.prog 12 #[.slice a n cap, .slice a' n cap'] w fun e w' => e = .returned (.bool true) ∧ Below w.heap.size w w' := by
  have HS := hide hs
  have HS' := hide hs'
  have hre := hs.hreach
  clear hs hs'
  go_enter Tryd.func12, Tryd.ntmps12
  go_wp2
  go_loopw [5, 6] (fun o i wr => ∃ k : Nat, k ≤ n ∧ o = .bool true ∧ i = .int .i64 k ∧ Below w.heap.size w wr) (fun _ i _ => n - (intOf i).toNat)
  case atStart => exact ⟨0, by omega, by simp, rfl, Below.refl _ _⟩
  case round =>
    obtain ⟨k, hk, rfl, rfl, hb⟩ := hrel
    have HB := hide hb
    clear hb
    by_cases hlt : k < n
    · have hlt' : (k : Int) < (n : Int) := by omega
      obtain ⟨b, o, rfl⟩ := HS.out.place (by omega)
      obtain ⟨b', o', rfl⟩ := HS'.out.place (by omega)
      have HDL := hide (dat_length HS.out.hlen hlt)
      have hu := aD.und
      have HI1 : Hid ((Tryd.prog.info? 26).map (·.size) = some (u8s (dat xs k)).length) := hide (by rw [wD.size, u8s_length, HDL.out])
      have hrg : ∀ v : World, Below w.heap.size w v → v.rangeAt b (o + 32 * k) (u8s (dat xs k)) ∧ v.rangeAt b' (o' + 32 * k) (u8s (dat xs k)) := fun v hv => ⟨(HS.out.below hv).range k hlt, (HS'.out.below hv).range k hlt⟩
      go_wp2_with fail
      refine wp_region_noPanic ?_
      have B0 := hide (HB.out.drew)
      refine wp_region_held_drew (S := fun v : World => v.rangeAt b (o + 32 * k) (u8s (dat xs k)) ∧ v.rangeAt b' (o' + 32 * k) (u8s (dat xs k))) (by kernel_rfl) (hrg _ B0.out) (fun hHeld => ?_)
      refine takeH 0 21 (.slice (some ⟨b, o, none⟩) n cap) hHeld rfl rfl (by kernel_rfl) (by kernel_rfl) (by kernel_rfl) (fun _ _ _ h => h) (Or.inl ⟨by rfl, fun w _ => by go_simp⟩) ?_
      simp only [Act.put, List.setIfInBounds_toArray, List.set_cons_zero, List.set_cons_succ]
      refine takeH 1 22 (.int .i64 (k : Int)) hHeld rfl rfl (by kernel_rfl) (by kernel_rfl) (by kernel_rfl) (fun _ _ _ h => h) (Or.inl ⟨by rfl, fun w _ => by go_simp⟩) ?_
      simp only [Act.put, List.setIfInBounds_toArray, List.set_cons_zero, List.set_cons_succ]
      refine takeH 2 23 (.pointer (some ⟨b, o + 32 * k, none⟩)) hHeld rfl rfl (by kernel_rfl) (by kernel_rfl) (by kernel_rfl) (fun _ _ _ h => h) (Or.inl ⟨by rfl, fun w _ => run_op rfl (d_at b o n cap k (k : Int) rfl hlt w)⟩) ?_
      simp only [Act.put, List.setIfInBounds_toArray, List.set_cons_zero, List.set_cons_succ]
      refine takeH 3 24 (.agg (u8s (dat xs k)).toArray) hHeld rfl rfl (by kernel_rfl) (by kernel_rfl) (by kernel_rfl) (fun _ _ _ h => h) (yieldsIf_load_mid (by rfl) _ _ rfl b (o + 32 * k) rfl _ _ (fun w h => h.1) hu rfl HI1.out) ?_
      simp only [Act.put, List.setIfInBounds_toArray, List.set_cons_zero, List.set_cons_succ]
      refine takeH 4 25 (.slice (some ⟨b', o', none⟩) n cap') hHeld rfl rfl (by kernel_rfl) (by kernel_rfl) (by kernel_rfl) (fun _ _ _ h => h) (Or.inl ⟨by rfl, fun w _ => by go_simp⟩) ?_
      simp only [Act.put, List.setIfInBounds_toArray, List.set_cons_zero, List.set_cons_succ]
      refine takeH 5 26 (.int .i64 (k : Int)) hHeld rfl rfl (by kernel_rfl) (by kernel_rfl) (by kernel_rfl) (fun _ _ _ h => h) (Or.inl ⟨by rfl, fun w _ => by go_simp⟩) ?_
      simp only [Act.put, List.setIfInBounds_toArray, List.set_cons_zero, List.set_cons_succ]
      refine takeH 6 27 (.pointer (some ⟨b', o' + 32 * k, none⟩)) hHeld rfl rfl (by kernel_rfl) (by kernel_rfl) (by kernel_rfl) (fun _ _ _ h => h) (Or.inl ⟨by rfl, fun w _ => run_op rfl (d_at b' o' n cap' k (k : Int) rfl hlt w)⟩) ?_
      simp only [Act.put, List.setIfInBounds_toArray, List.set_cons_zero, List.set_cons_succ]
      refine takeH 7 28 (.agg (u8s (dat xs k)).toArray) hHeld rfl rfl (by kernel_rfl) (by kernel_rfl) (by kernel_rfl) (fun _ _ _ h => h) (yieldsIf_load_mid (by rfl) _ _ rfl b' (o' + 32 * k) rfl _ _ (fun w h => h.2) hu rfl HI1.out) ?_
      simp only [Act.put, List.setIfInBounds_toArray, List.set_cons_zero, List.set_cons_succ]
      refine takeH 8 29 (.bool true) hHeld rfl rfl (by kernel_rfl) (by kernel_rfl) (by kernel_rfl) (fun _ _ _ h => h) (Or.inl ⟨by rfl, fun v _ => run_eqT aD _ rfl rfl HDL.out⟩) ?_
      simp only [Act.put, List.setIfInBounds_toArray, List.set_cons_zero, List.set_cons_succ]
      refine takeH 9 5 (.bool true) hHeld rfl rfl (by kernel_rfl) (by kernel_rfl) (by kernel_rfl) (fun _ _ _ h => h) (Or.inl ⟨by rfl, fun w _ => by go_simp⟩) ?_
      simp only [Act.put, List.setIfInBounds_toArray, List.set_cons_zero, List.set_cons_succ]
      refine wpAnyH_done (by kernel_rfl) ?_ _
      refine NoPanic.normal ?_
      clear hHeld hrg hu
      go_wp2
      exact ⟨⟨k + 1, by omega, rfl, by go_num, B0.out⟩, by simp [intOf]; omega⟩
    · have hlt' : ¬ ((k : Int) < (n : Int)) := by omega
      go_wp2
      go_ret
      exact ⟨rfl, HB.out⟩

end Go.Proofs.YtdggooanpamoeaaDoor
