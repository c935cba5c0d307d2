/-
  hash.Load below 64 bytes.
-/
import Derived.Test.YtefaabmkcgdkiaaDoorLb
namespace Go.Proofs.YtefaabmkcgdkiaaDoor
open Go.RowKit
set_option linter.unusedVariables false

section
variable {dst : Option Tmp} {ty : TypeId} {pos : String} {aft : Array Edge} {gd : Option (Nat × Bool)} {a : Act} {w : World} {T E : TypeId} {k : IntKind} {n : Nat}
theorem run_neF (hA : Arr T E k n) (t' : TypeId) {x y : Operand} {xs ys : List Int} (hx : a.eval x = .agg (xs.map (Value.int k)).toArray) (hy : a.eval y = .agg (ys.map (Value.int k)).toArray) (hl : xs.length = n) (hl' : ys.length = n) (e : xs = ys) :
    (execOp a.eval ⟨dst, .binOp .neq T x y t', ty, pos, aft, gd⟩).run Tryd.prog w = .ok (.value (.bool false)) w := by
  rw [run_neA hA t' hx hy hl hl']
  simp [e]
theorem run_neT (hA : Arr T E k n) (t' : TypeId) {x y : Operand} {xs ys : List Int} (hx : a.eval x = .agg (xs.map (Value.int k)).toArray) (hy : a.eval y = .agg (ys.map (Value.int k)).toArray) (hl : xs.length = n) (hl' : ys.length = n) (e : xs ≠ ys) :
    (execOp a.eval ⟨dst, .binOp .neq T x y t', ty, pos, aft, gd⟩).run Tryd.prog w = .ok (.value (.bool true)) w := by
  rw [run_neA hA t' hx hy hl hl']
  simp [e]
end

set_option maxRecDepth 100000 in
set_option maxHeartbeats 2000000 in
theorem load_small (a : Option Addr) (len cap : Nat) (xs : List Int) (n : Nat) (w : World) (hs : Sl w a len cap xs) (h40 : 40 ≤ len) (hn : ldN xs = (n : Int)) (hmax : n ≤ 2305843009213693951) (hm : len - 40 = n % 64) (h64 : n < 64) (hW : ldW xs = bL) :
    Calls Tryd.prog 17 #[.slice a len cap] w fun e w' => ∃ g, e = .returned (.tuple #[.pointer (some ⟨g, 0, none⟩), .int .i64 0]) ∧ w.heap.size ≤ g ∧ Blk w' g 65 (stM (ldW xs) (n - n % 64) (xs.drop 40)) ∧ Below w.heap.size w w' := by
  have HW := hide hW
  clear hW
  have HS := hide hs
  have hr := hs.hreach
  have HX := hide hs.hlen
  obtain ⟨a2, hsl2, hs2, _⟩ := slice_from hs 32 32 rfl (by omega)
  have S2 := hide hs2
  have HN := hide hn
  have HST := hide (ld_st xs n (by rw [HX.out]; exact h40) (by rw [HX.out]; exact hm))
  clear hs hs2 hn
  have c1 : ¬ ((len : Int) < 40) := by omega
  have c2 : decide ((2305843009213693951 : Int) < (n : Int)) = false := by simp; omega
  have c3 : ((len : Int) - 40 != (n : Int) % 64) = false := by simp; omega
  have hm64 : len - 40 ≤ 63 := by omega
  have HM := hide hm
  clear hm
  go_enter Tryd.func17, Tryd.ntmps17
  go_wp2_with fail
  refine (length_any _ _ _ _ _ S2.out (by omega)).mono ?_
  rintro e w1 ⟨rfl, q, rfl⟩
  rw [show beVal ((xs.drop 32).take 8) = (n : Int) from HN.out]
  have S1 := hide (HS.out.drewN q)
  go_wp2_with fail
  refine (wordsOf_any _ _ _ _ _ S1.out (by omega)).mono ?_
  rintro e w2 ⟨rfl, hb2⟩
  have hb2' : Below w.heap.size w w2 := (below_drewN (Below.refl _ w) q).trans hb2
  have HLS := hide (stC_length true (ldW xs) (n : Int) (zer 64) rfl rfl)
  go_wp2_with (first | (refine step_storeA (vs := stC true (ldW xs) (n : Int) (zer 64)) wSt rfl rfl rfl HG3.out HLS.out (One.st _ _ _ _) rfl ?_; intro w4 hg4 hbut4; have HG4 := hide hg4; have HB4 := hide (hb2'.trans ((hb3.mono hb2'.size).trans (hbut4.below (Nat.le_trans hb2'.size hle3)))); clear hg4 hbut4) | (refine step_alloc zSt rfl ?_; intro w3 g hg3 hle3 hb3; have HG3 := hide hg3; clear hg3) | (refine step_buildLd rfl rfl rfl ?_))
  have c9 : w4.cell? ⟨g, 9, none⟩ = some (.int .i64 (n : Int)) := by rw [HG4.out.cell]; exact stC_size _ _ _ _ rfl
  have d64 : (n : Int) < 64 := by omega
  simp only [Act.put, List.setIfInBounds_toArray, List.set_cons_zero, List.set_cons_succ]
  have hu1 := aW8.und
  have hi1 : (Tryd.prog.info? 26).map (·.size) = some (u32s (ldW xs)).length := by rw [wW.size]; rfl
  have r1 : w4.rangeAt g 1 (u32s (ldW xs)) := HG4.out.range 1 _ (stC_words _ _ _ _ rfl)
  refine wp_region_noPanic ?_
  refine wp_region_held_drew (S := fun v : World => v.cell? ⟨g, 9, none⟩ = some (.int .i64 (n : Int)) ∧ v.rangeAt g 1 (u32s (ldW xs))) (by kernel_rfl) ⟨c9, r1⟩ (fun hHeld => ?_)
  refine takeH 0 28 (.pointer (some ⟨g, 9, none⟩)) hHeld rfl rfl (by kernel_rfl) (by kernel_rfl) (by kernel_rfl) (fun _ _ _ h => h) (Or.inl ⟨by rfl, fun w _ => by go_simp⟩) ?_
  simp only [Act.put, List.setIfInBounds_toArray, List.set_cons_zero, List.set_cons_succ]
  refine takeH 1 29 (.int .i64 (n : Int)) hHeld rfl rfl (by kernel_rfl) (by kernel_rfl) (by kernel_rfl) (fun _ _ _ h => h) (Or.inl ⟨by rfl, fun w hw => by have hw' : w.cell? ⟨g, 9, none⟩ = some (.int .i64 (n : Int)) := hw.1; go_simp⟩) ?_
  simp only [Act.put, List.setIfInBounds_toArray, List.set_cons_zero, List.set_cons_succ]
  refine takeH 2 30 (.bool true) hHeld rfl rfl (by kernel_rfl) (by kernel_rfl) (by kernel_rfl) (fun _ _ _ h => h) (Or.inl ⟨by rfl, fun w _ => by go_simp⟩) ?_
  simp only [Act.put, List.setIfInBounds_toArray, List.set_cons_zero, List.set_cons_succ]
  refine takeH 3 31 (.bool true) hHeld rfl rfl (by kernel_rfl) (by kernel_rfl) (by kernel_rfl) (fun _ _ _ h => h) (Or.inl ⟨by rfl, fun w _ => by go_simp⟩) ?_
  simp only [Act.put, List.setIfInBounds_toArray, List.set_cons_zero, List.set_cons_succ]
  refine takeH 4 32 (.pointer (some ⟨g, 1, none⟩)) hHeld rfl rfl (by kernel_rfl) (by kernel_rfl) (by kernel_rfl) (fun _ _ _ h => h) (Or.inl ⟨by rfl, fun w _ => by go_simp⟩) ?_
  simp only [Act.put, List.setIfInBounds_toArray, List.set_cons_zero, List.set_cons_succ]
  refine takeH 5 33 (.agg (u32s (ldW xs)).toArray) hHeld rfl rfl (by kernel_rfl) (by kernel_rfl) (by kernel_rfl) (fun _ _ _ h => h) (yieldsIf_load_mid (by rfl) _ _ rfl g 1 rfl _ _ (fun w h => h.2) hu1 rfl hi1) ?_
  simp only [Act.put, List.setIfInBounds_toArray, List.set_cons_zero, List.set_cons_succ]
  refine wpAnyH_ready (rs := [6]) (by kernel_rfl) (by simp) (AllReadyH.cons rfl (fun K hK => ?_) AllReadyH.nil)
  rw [if_pos (by rfl)]
  go_simp
  refine (begin_any _).mono ?_
  rintro e w5 ⟨rfl, hb5⟩
  have HG4d := hide (show Blk w4.drew g 65 (stC true (ldW xs) (n : Int) (zer 64)) from HG4.out)
  have HG5 := hide (HG4d.out.below hb5 HG4d.out.lt)
  have HB5 := hide ((below_drewN HB4.out 1).trans (hb5.mono (below_drewN HB4.out 1).size))
  refine hK.out _ _ ⟨by rw [HG5.out.cell]; exact stC_size _ _ _ _ rfl, HG5.out.range 1 _ (stC_words _ _ _ _ rfl)⟩ (fun hHeld => ?_)
  clear hK K
  refine takeH 7 35 (.bool false) hHeld rfl rfl (by kernel_rfl) (by kernel_rfl) (by kernel_rfl) (fun _ _ _ h => h) (Or.inl ⟨by rfl, fun v _ => run_neF aW8 _ rfl rfl rfl rfl HW.out⟩) ?_
  simp only [Act.put, List.setIfInBounds_toArray, List.set_cons_zero, List.set_cons_succ]
  refine takeH 8 36 (.bool false) hHeld rfl rfl (by kernel_rfl) (by kernel_rfl) (by kernel_rfl) (fun _ _ _ h => h) (Or.inl ⟨by rfl, fun w _ => by go_simp⟩) ?_
  simp only [Act.put, List.setIfInBounds_toArray, List.set_cons_zero, List.set_cons_succ]
  refine wpAnyH_done (by kernel_rfl) ?_ _
  refine NoPanic.normal ?_
  clear hHeld hu1 hi1 r1 HG4d hb5
  have S5 := hide (HS.out.below HB5.out)
  have hle : w.heap.size ≤ g := Nat.le_trans hb2'.size hle3
  clear c9 HG4 HB4
  obtain ⟨a4, hsl4, hs4, _⟩ := slice_from S5.out 40 40 rfl h40
  have S6 := hide (hs4.drewN 1)
  have hsA : ∀ v : World, (Instr.sliceAt 63 (.pointer (some ⟨g, 10, none⟩)) none none none).run Tryd.prog v = .ok (.slice (some ⟨g, 10, none⟩) 64 64) v := fun v => by kernel_rfl
  clear hs4
  go_wp2_with fail
  go_region_law (refine rstep_copy rfl rfl rfl rfl (by exact S6.out) g 10 (len - 40) (by omega) (by exact HG5.out) (fun _ => rfl) (by rw [stC_length _ _ _ _ rfl rfl]; omega) ?_; intro w6 hg6 hbut6)
  rw [List.take_of_length_le (by rw [List.length_drop, HX.out]; exact Nat.le_refl _), show 10 = 10 + 0 from rfl, stC_setRest _ _ _ _ rfl _ _ (by rw [List.length_drop, HX.out, zer_length]; omega), HST.out] at hg6
  go_wp2
  go_ret2
  exact ⟨g, rfl, hle, hg6, (below_drewN HB5.out 1).trans (hbut6.below hle)⟩

set_option maxRecDepth 100000 in
set_option maxHeartbeats 2000000 in
theorem load_words (a : Option Addr) (len cap : Nat) (xs : List Int) (n : Nat) (w : World) (hs : Sl w a len cap xs) (h40 : 40 ≤ len) (hn : ldN xs = (n : Int)) (hmax : n ≤ 2305843009213693951) (hm : len - 40 = n % 64) (h64 : n < 64) (hW : ldW xs ≠ bL) :
    Calls Tryd.prog 17 #[.slice a len cap] w fun e w' => e = .returned (.tuple #[.pointer none, .int .i64 20]) ∧ Below w.heap.size w w' := by
  have HW := hide hW
  clear hW
  have HS := hide hs
  have hr := hs.hreach
  have HX := hide hs.hlen
  obtain ⟨a2, hsl2, hs2, _⟩ := slice_from hs 32 32 rfl (by omega)
  have S2 := hide hs2
  have HN := hide hn
  have HST := hide (ld_st xs n (by rw [HX.out]; exact h40) (by rw [HX.out]; exact hm))
  clear hs hs2 hn
  have c1 : ¬ ((len : Int) < 40) := by omega
  have c2 : decide ((2305843009213693951 : Int) < (n : Int)) = false := by simp; omega
  have c3 : ((len : Int) - 40 != (n : Int) % 64) = false := by simp; omega
  have hm64 : len - 40 ≤ 63 := by omega
  have HM := hide hm
  clear hm
  go_enter Tryd.func17, Tryd.ntmps17
  go_wp2_with fail
  refine (length_any _ _ _ _ _ S2.out (by omega)).mono ?_
  rintro e w1 ⟨rfl, q, rfl⟩
  rw [show beVal ((xs.drop 32).take 8) = (n : Int) from HN.out]
  have S1 := hide (HS.out.drewN q)
  go_wp2_with fail
  refine (wordsOf_any _ _ _ _ _ S1.out (by omega)).mono ?_
  rintro e w2 ⟨rfl, hb2⟩
  have hb2' : Below w.heap.size w w2 := (below_drewN (Below.refl _ w) q).trans hb2
  have HLS := hide (stC_length true (ldW xs) (n : Int) (zer 64) rfl rfl)
  go_wp2_with (first | (refine step_storeA (vs := stC true (ldW xs) (n : Int) (zer 64)) wSt rfl rfl rfl HG3.out HLS.out (One.st _ _ _ _) rfl ?_; intro w4 hg4 hbut4; have HG4 := hide hg4; have HB4 := hide (hb2'.trans ((hb3.mono hb2'.size).trans (hbut4.below (Nat.le_trans hb2'.size hle3)))); clear hg4 hbut4) | (refine step_alloc zSt rfl ?_; intro w3 g hg3 hle3 hb3; have HG3 := hide hg3; clear hg3) | (refine step_buildLd rfl rfl rfl ?_))
  have c9 : w4.cell? ⟨g, 9, none⟩ = some (.int .i64 (n : Int)) := by rw [HG4.out.cell]; exact stC_size _ _ _ _ rfl
  have d64 : (n : Int) < 64 := by omega
  simp only [Act.put, List.setIfInBounds_toArray, List.set_cons_zero, List.set_cons_succ]
  have hu1 := aW8.und
  have hi1 : (Tryd.prog.info? 26).map (·.size) = some (u32s (ldW xs)).length := by rw [wW.size]; rfl
  have r1 : w4.rangeAt g 1 (u32s (ldW xs)) := HG4.out.range 1 _ (stC_words _ _ _ _ rfl)
  refine wp_region_noPanic ?_
  refine wp_region_held_drew (S := fun v : World => v.cell? ⟨g, 9, none⟩ = some (.int .i64 (n : Int)) ∧ v.rangeAt g 1 (u32s (ldW xs))) (by kernel_rfl) ⟨c9, r1⟩ (fun hHeld => ?_)
  refine takeH 0 28 (.pointer (some ⟨g, 9, none⟩)) hHeld rfl rfl (by kernel_rfl) (by kernel_rfl) (by kernel_rfl) (fun _ _ _ h => h) (Or.inl ⟨by rfl, fun w _ => by go_simp⟩) ?_
  simp only [Act.put, List.setIfInBounds_toArray, List.set_cons_zero, List.set_cons_succ]
  refine takeH 1 29 (.int .i64 (n : Int)) hHeld rfl rfl (by kernel_rfl) (by kernel_rfl) (by kernel_rfl) (fun _ _ _ h => h) (Or.inl ⟨by rfl, fun w hw => by have hw' : w.cell? ⟨g, 9, none⟩ = some (.int .i64 (n : Int)) := hw.1; go_simp⟩) ?_
  simp only [Act.put, List.setIfInBounds_toArray, List.set_cons_zero, List.set_cons_succ]
  refine takeH 2 30 (.bool true) hHeld rfl rfl (by kernel_rfl) (by kernel_rfl) (by kernel_rfl) (fun _ _ _ h => h) (Or.inl ⟨by rfl, fun w _ => by go_simp⟩) ?_
  simp only [Act.put, List.setIfInBounds_toArray, List.set_cons_zero, List.set_cons_succ]
  refine takeH 3 31 (.bool true) hHeld rfl rfl (by kernel_rfl) (by kernel_rfl) (by kernel_rfl) (fun _ _ _ h => h) (Or.inl ⟨by rfl, fun w _ => by go_simp⟩) ?_
  simp only [Act.put, List.setIfInBounds_toArray, List.set_cons_zero, List.set_cons_succ]
  refine takeH 4 32 (.pointer (some ⟨g, 1, none⟩)) hHeld rfl rfl (by kernel_rfl) (by kernel_rfl) (by kernel_rfl) (fun _ _ _ h => h) (Or.inl ⟨by rfl, fun w _ => by go_simp⟩) ?_
  simp only [Act.put, List.setIfInBounds_toArray, List.set_cons_zero, List.set_cons_succ]
  refine takeH 5 33 (.agg (u32s (ldW xs)).toArray) hHeld rfl rfl (by kernel_rfl) (by kernel_rfl) (by kernel_rfl) (fun _ _ _ h => h) (yieldsIf_load_mid (by rfl) _ _ rfl g 1 rfl _ _ (fun w h => h.2) hu1 rfl hi1) ?_
  simp only [Act.put, List.setIfInBounds_toArray, List.set_cons_zero, List.set_cons_succ]
  refine wpAnyH_ready (rs := [6]) (by kernel_rfl) (by simp) (AllReadyH.cons rfl (fun K hK => ?_) AllReadyH.nil)
  rw [if_pos (by rfl)]
  go_simp
  refine (begin_any _).mono ?_
  rintro e w5 ⟨rfl, hb5⟩
  have HG4d := hide (show Blk w4.drew g 65 (stC true (ldW xs) (n : Int) (zer 64)) from HG4.out)
  have HG5 := hide (HG4d.out.below hb5 HG4d.out.lt)
  have HB5 := hide ((below_drewN HB4.out 1).trans (hb5.mono (below_drewN HB4.out 1).size))
  refine hK.out _ _ ⟨by rw [HG5.out.cell]; exact stC_size _ _ _ _ rfl, HG5.out.range 1 _ (stC_words _ _ _ _ rfl)⟩ (fun hHeld => ?_)
  clear hK K
  refine takeH 7 35 (.bool true) hHeld rfl rfl (by kernel_rfl) (by kernel_rfl) (by kernel_rfl) (fun _ _ _ h => h) (Or.inl ⟨by rfl, fun v _ => run_neT aW8 _ rfl rfl rfl rfl HW.out⟩) ?_
  simp only [Act.put, List.setIfInBounds_toArray, List.set_cons_zero, List.set_cons_succ]
  refine takeH 8 36 (.bool true) hHeld rfl rfl (by kernel_rfl) (by kernel_rfl) (by kernel_rfl) (fun _ _ _ h => h) (Or.inl ⟨by rfl, fun w _ => by go_simp⟩) ?_
  simp only [Act.put, List.setIfInBounds_toArray, List.set_cons_zero, List.set_cons_succ]
  refine wpAnyH_done (by kernel_rfl) ?_ _
  refine NoPanic.normal ?_
  clear hHeld hu1 hi1 r1 HG4d hb5
  go_wp2
  go_ret2
  exact ⟨rfl, HB5.out⟩

end Go.Proofs.YtefaabmkcgdkiaaDoor
