/-
  The program's halves of a span.
-/
import Derived.Test.YtdggooanpamoeaaDoorPb
namespace Go.Proofs.YtdggooanpamoeaaDoor
open Go.RowKit
set_option linter.unusedVariables false

/-- The cells of a span. -/
def spn (b e : Nat) : List Value := [.int .i64 (b : Int), .int .i64 (e : Int)]
theorem spn_one (b e : Nat) : One (spn b e) := by intro v hv; simp [spn] at hv; rcases hv with rfl | rfl <;> rfl
theorem two_one (x y : Int) : One [.int .i64 x, .int .i64 y] := by intro v hv; simp at hv; rcases hv with rfl | rfl <;> rfl
theorem zSp : Zeroed 68 (spn 0 0) := fun _ _ _ _ _ _ _ => by kernel_rfl

theorem split_int (N : Int) (n : Nat) (w : World) (hN : N = (n : Int)) (h2 : 2 ≤ n) (hn : n ≤ 9223372036854775807) : Calls Tryd.prog 37 #[.int .i64 N] w fun e w' => e = .returned (.tuple #[.int .i64 (hf n), .int .i64 0]) ∧ w' = w := by
  subst hN
  exact split_any n w h2 hn

theorem results_twoW {fn : Func} {p q : Tmp} {T U : TypeId} (h : fn.results = #[.cell p T, .cell q U]) {n m : Nat} (hT : Wide T n) (hU : Wide U m) (tmps : Array Value) (w : World)
    {g g' : Nat} {t t' : TypeId} {cs cs' : List Value} (hp : tmps.getD p undef = .pointer (some ⟨g, 0, none⟩)) (hq : tmps.getD q undef = .pointer (some ⟨g', 0, none⟩)) (hg : Blk w g t cs) (hg' : Blk w g' t' cs') (hl : cs.length = n) (hl' : cs'.length = m) :
    (results fn tmps).run Tryd.prog w = .ok (.tuple #[.agg cs.toArray, .agg cs'.toArray]) w := by
  have hp' : tmps[p]?.getD undef = .pointer (some ⟨g, 0, none⟩) := by simpa using hp
  have hq' : tmps[q]?.getD undef = .pointer (some ⟨g', 0, none⟩) := by simpa using hq
  obtain ⟨d, hu, hd⟩ := hT.und
  obtain ⟨d', hu', hd'⟩ := hU.und
  simp [results, h, hp', hq', asAddr, run_loadVar_mid w g 0 T cs d (hg.range 0 cs (by simp)) hu hd (by rw [hT.size, hl]), run_loadVar_mid w g' 0 U cs' d' (hg'.range 0 cs' (by simp)) hu' hd' (by rw [hU.size, hl'])]

set_option maxRecDepth 100000 in
set_option maxHeartbeats 2000000 in
theorem halves_any (b e i k : Nat) (I : Int) (w : World) (hI : I = (i : Int)) (h2 : 2 ≤ e - b) (hbe : b ≤ e) (he : e ≤ 4398046511104) (hk : hf (e - b) = k) (b1 e1 b2 e2 : Nat) (hr : (i < b + k ∧ b1 = b ∧ e1 = b + k ∧ b2 = b + k ∧ e2 = e) ∨ (b + k ≤ i ∧ b1 = b + k ∧ e1 = e ∧ b2 = b ∧ e2 = b + k)) :
    Calls Tryd.prog 33 #[.agg (spn b e).toArray, .int .i64 I] w fun r w' => r = .returned (.tuple #[.agg (spn b1 e1).toArray, .agg (spn b2 e2).toArray]) ∧ Below w.heap.size w w' := by
  subst hI
  have hbd := hf_bd (e - b) h2 (by omega)
  rw [hk] at hbd
  have HKE := hide hk
  clear hk
  have hsub : (e : Int) - (b : Int) = ((e - b : Nat) : Int) := by omega
  have HSUB := hide hsub
  clear hsub
  go_enter Tryd.func33, Tryd.ntmps33
  go_wp2_with (refine step_box (cs := spn b e) rfl rfl ?_)
  intro w1 g2 hr1 hl1 hb1
  have G2 := hide hr1
  clear hr1
  go_wp2_with (refine step_alloc zSp rfl ?_)
  intro w2 g4 hr2 hl2 hb2
  have G4 := hide hr2
  have G22 := hide (G2.out.below hb2 G2.out.lt)
  have B2 := hide (hb1.trans (hb2.mono hb1.size))
  have hw4 : w.heap.size ≤ g4 := Nat.le_trans hb1.size hl2
  clear hr2 G2 hb1 hb2 hl1
  go_wp2_with (refine step_alloc zSp rfl ?_)
  intro w3 g5 hr3 hl3 hb3
  have G5 := hide hr3
  have G43 := hide (G4.out.below hb3 G4.out.lt)
  have G23 := hide (G22.out.below hb3 G22.out.lt)
  have B3 := hide (B2.out.trans (hb3.mono B2.out.size))
  have hw5 : w.heap.size ≤ g5 := Nat.le_trans B2.out.size hl3
  have n45 : g4 ≠ g5 := by have := G4.out.lt; omega
  have hc0 : w3.cell? ⟨g2, 0, none⟩ = some (.int .i64 b) := by rw [G23.out.cell]; rfl
  have hc1 : w3.cell? ⟨g2, 1, none⟩ = some (.int .i64 e) := by rw [G23.out.cell]; rfl
  clear hr3 G4 G22 hb3 hl2 hl3 B2
  go_wp2_with fail
  refine (split_int _ (e - b) _ HSUB.out h2 (by omega)).mono ?_
  rintro r w4 ⟨rfl, rfl⟩
  rw [HKE.out]
  go_wp2_with (refine step_alloc zSp rfl ?_)
  intro w5 g8 hr5 hl5 hb5
  have G8 := hide hr5
  clear hr5
  go_wp2_with (refine step_storeA (vs := [.int .i64 (b : Int), .int .i64 ((b : Int) + (k : Int))]) wSp rfl rfl rfl G8.out rfl (two_one _ _) rfl ?_)
  intro w6 hg6 hbut6
  have n58 : g5 ≠ g8 := by have := G5.out.lt; omega
  have n48 : g4 ≠ g8 := by have := G43.out.lt; omega
  have B46 := hide (hb5.trans (hbut6.below hl5))
  have G86 := hide hg6
  have G56 := hide (G5.out.below B46.out G5.out.lt)
  have G46 := hide (G43.out.below B46.out G43.out.lt)
  have G26 := hide (G23.out.below B46.out G23.out.lt)
  have B6 := hide (B3.out.trans (B46.out.mono B3.out.size))
  have hc0 : w6.cell? ⟨g2, 0, none⟩ = some (.int .i64 b) := by rw [G26.out.cell]; rfl
  have hc1 : w6.cell? ⟨g2, 1, none⟩ = some (.int .i64 e) := by rw [G26.out.cell]; rfl
  clear hb5 hbut6 hg6 G8 G5 G43 G23 hl5 B3
  go_wp2_with (refine step_alloc zSp rfl ?_)
  intro w7 g9 hr7 hl7 hb7
  have G9 := hide hr7
  clear hr7
  go_wp2_with (refine step_storeA (vs := [.int .i64 ((b : Int) + (k : Int)), .int .i64 (e : Int)]) wSp rfl rfl rfl G9.out rfl (two_one _ _) rfl ?_)
  intro w8 hg8 hbut8
  have B68 := hide (hb7.trans (hbut8.below hl7))
  have G98 := hide hg8
  have G88 := hide (G86.out.below B68.out G86.out.lt)
  have G58 := hide (G56.out.below B68.out G56.out.lt)
  have G48 := hide (G46.out.below B68.out G46.out.lt)
  have B8 := hide (B6.out.trans (B68.out.mono B6.out.size))
  have hc9 : w8.cell? ⟨g9, 0, none⟩ = some (.int .i64 ((b : Int) + (k : Int))) := by rw [G98.out.cell]; rfl
  have n59 : g5 ≠ g9 := by have := G56.out.lt; omega
  have n49 : g4 ≠ g9 := by have := G46.out.lt; omega
  clear hb7 hbut8 hg8 G9 G86 G56 G46 G26 hl7 B6
  have hu := Tryd.underlying68
  have hSS : ∀ v : World, v.heap[g8]? = w8.heap[g8]? → v.heap[g9]? = w8.heap[g9]? → v.rangeAt g8 0 [.int .i64 (b : Int), .int .i64 ((b : Int) + (k : Int))] ∧ v.rangeAt g9 0 [.int .i64 ((b : Int) + (k : Int)), .int .i64 (e : Int)] := fun v h1 h2 =>
    ⟨(show Blk v g8 _ _ from h1.trans G88.out).range 0 _ (by simp), (show Blk v g9 _ _ from h2.trans G98.out).range 0 _ (by simp)⟩
  rcases hr with ⟨hlt, q1, q2, q3, q4⟩ | ⟨hle, q1, q2, q3, q4⟩
  · have hlt' : (i : Int) < (b : Int) + (k : Int) := by omega
    have EN : Hid (spn b1 e1 = [.int .i64 (b : Int), .int .i64 ((b : Int) + (k : Int))]) := hide (by subst q1 q2; rfl)
    have EF : Hid (spn b2 e2 = [.int .i64 ((b : Int) + (k : Int)), .int .i64 (e : Int)]) := hide (by subst q3 q4; rfl)
    clear q1 q2 q3 q4
    go_wp2_with fail
    refine wp_region_noPanic ?_
    refine wp_region_held_drew (S := fun v : World => v.rangeAt g8 0 [.int .i64 (b : Int), .int .i64 ((b : Int) + (k : Int))] ∧ v.rangeAt g9 0 [.int .i64 ((b : Int) + (k : Int)), .int .i64 (e : Int)]) (by kernel_rfl) (hSS _ rfl rfl) (fun hHeld => ?_)
    refine takeH 0 37 (.agg #[.int .i64 (b : Int), .int .i64 ((b : Int) + (k : Int))]) hHeld rfl rfl (by kernel_rfl) (by kernel_rfl) (by kernel_rfl) (fun _ _ _ h => h) (yieldsIf_load_mid (by rfl) _ _ rfl g8 0 rfl _ _ (fun w h => h.1) hu rfl wSp.size) ?_
    simp only [Act.put, List.setIfInBounds_toArray, List.set_cons_zero, List.set_cons_succ]
    refine takeH 1 38 (.agg #[.int .i64 ((b : Int) + (k : Int)), .int .i64 (e : Int)]) hHeld rfl rfl (by kernel_rfl) (by kernel_rfl) (by kernel_rfl) (fun _ _ _ h => h) (yieldsIf_load_mid (by rfl) _ _ rfl g9 0 rfl _ _ (fun w h => h.2) hu rfl wSp.size) ?_
    simp only [Act.put, List.setIfInBounds_toArray, List.set_cons_zero, List.set_cons_succ]
    refine wpAnyH_ready (rs := [2]) (by kernel_rfl) (by simp) (AllReadyH.cons rfl (fun K hK => ?_) AllReadyH.nil)
    rw [if_pos (by rfl)]
    refine wp_storeW wSp rfl rfl rfl (G48.out.below ((Below.refl _ _).drew) G48.out.lt) rfl (two_one _ _) (by simp [spn]) ?_
    intro v5 hgs hbuts
    have hs8 : v5.heap[g8]? = w8.heap[g8]? := hbuts.block g8 n48.symm
    have hs9 : v5.heap[g9]? = w8.heap[g9]? := hbuts.block g9 n49.symm
    refine hK.out _ _ (hSS _ hs8 hs9) (fun hHeld => ?_)
    clear hK K
    simp only [Act.put]
    refine wpAnyH_ready (rs := [3]) (by kernel_rfl) (by simp) (AllReadyH.cons rfl (fun K hK => ?_) AllReadyH.nil)
    rw [if_pos (by rfl)]
    refine wp_storeW wSp rfl rfl rfl ((G58.out.below ((Below.refl _ _).drew) G58.out.lt).but hbuts n45.symm) rfl (two_one _ _) (by simp [spn]) ?_
    intro v6 hgt hbutt
    refine hK.out _ _ (hSS _ ((hbutt.block g8 n58.symm).trans hs8) ((hbutt.block g9 n59.symm).trans hs9)) (fun hHeld => ?_)
    clear hK K
    simp only [Act.put]
    refine wpAnyH_done (by kernel_rfl) ?_ _
    refine NoPanic.normal ?_
    clear hHeld
    have hgs' := hgs.but hbutt n45
    go_wp2
    refine bodyPost_ret (results_twoW rfl wSp wSp _ _ rfl rfl hgs' hgt rfl rfl) rfl ⟨by rw [EN.out, EF.out]; rfl, ?_⟩
    exact (((B8.out.drew).trans (hbuts.below hw4)).trans (hbutt.below hw5))
  · have hlt' : ¬ ((i : Int) < (b : Int) + (k : Int)) := by omega
    have EN : Hid (spn b1 e1 = [.int .i64 ((b : Int) + (k : Int)), .int .i64 (e : Int)]) := hide (by subst q1 q2; rfl)
    have EF : Hid (spn b2 e2 = [.int .i64 (b : Int), .int .i64 ((b : Int) + (k : Int))]) := hide (by subst q3 q4; rfl)
    clear q1 q2 q3 q4
    go_wp2_with fail
    refine wp_region_noPanic ?_
    refine wp_region_held_drew (S := fun v : World => v.rangeAt g8 0 [.int .i64 (b : Int), .int .i64 ((b : Int) + (k : Int))] ∧ v.rangeAt g9 0 [.int .i64 ((b : Int) + (k : Int)), .int .i64 (e : Int)]) (by kernel_rfl) (hSS _ rfl rfl) (fun hHeld => ?_)
    refine takeH 0 39 (.agg #[.int .i64 ((b : Int) + (k : Int)), .int .i64 (e : Int)]) hHeld rfl rfl (by kernel_rfl) (by kernel_rfl) (by kernel_rfl) (fun _ _ _ h => h) (yieldsIf_load_mid (by rfl) _ _ rfl g9 0 rfl _ _ (fun w h => h.2) hu rfl wSp.size) ?_
    simp only [Act.put, List.setIfInBounds_toArray, List.set_cons_zero, List.set_cons_succ]
    refine takeH 1 40 (.agg #[.int .i64 (b : Int), .int .i64 ((b : Int) + (k : Int))]) hHeld rfl rfl (by kernel_rfl) (by kernel_rfl) (by kernel_rfl) (fun _ _ _ h => h) (yieldsIf_load_mid (by rfl) _ _ rfl g8 0 rfl _ _ (fun w h => h.1) hu rfl wSp.size) ?_
    simp only [Act.put, List.setIfInBounds_toArray, List.set_cons_zero, List.set_cons_succ]
    refine wpAnyH_ready (rs := [2]) (by kernel_rfl) (by simp) (AllReadyH.cons rfl (fun K hK => ?_) AllReadyH.nil)
    rw [if_pos (by rfl)]
    refine wp_storeW wSp rfl rfl rfl (G48.out.below ((Below.refl _ _).drew) G48.out.lt) rfl (two_one _ _) (by simp [spn]) ?_
    intro v5 hgs hbuts
    have hs8 : v5.heap[g8]? = w8.heap[g8]? := hbuts.block g8 n48.symm
    have hs9 : v5.heap[g9]? = w8.heap[g9]? := hbuts.block g9 n49.symm
    refine hK.out _ _ (hSS _ hs8 hs9) (fun hHeld => ?_)
    clear hK K
    simp only [Act.put]
    refine wpAnyH_ready (rs := [3]) (by kernel_rfl) (by simp) (AllReadyH.cons rfl (fun K hK => ?_) AllReadyH.nil)
    rw [if_pos (by rfl)]
    refine wp_storeW wSp rfl rfl rfl ((G58.out.below ((Below.refl _ _).drew) G58.out.lt).but hbuts n45.symm) rfl (two_one _ _) (by simp [spn]) ?_
    intro v6 hgt hbutt
    refine hK.out _ _ (hSS _ ((hbutt.block g8 n58.symm).trans hs8) ((hbutt.block g9 n59.symm).trans hs9)) (fun hHeld => ?_)
    clear hK K
    simp only [Act.put]
    refine wpAnyH_done (by kernel_rfl) ?_ _
    refine NoPanic.normal ?_
    clear hHeld
    have hgs' := hgs.but hbutt n45
    go_wp2
    refine bodyPost_ret (results_twoW rfl wSp wSp _ _ rfl rfl hgs' hgt rfl rfl) rfl ⟨by rw [EN.out, EF.out]; rfl, ?_⟩
    exact (((B8.out.drew).trans (hbuts.below hw4)).trans (hbutt.below hw5))

end Go.Proofs.YtdggooanpamoeaaDoor
