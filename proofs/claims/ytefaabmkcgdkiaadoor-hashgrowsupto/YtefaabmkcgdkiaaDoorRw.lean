/-
  The document's Write.
-/
import Derived.Test.YtefaabmkcgdkiaaDoorRv
import Derived.Test.YtefaabmkcgdkiaaDoorSc
namespace Go.Proofs.YtefaabmkcgdkiaaDoor
open Go.RowKit
set_option linter.unusedVariables false

theorem zRS : Zeroed 29 (rfC (zer 8) 0 (.slice none 0 0)) := fun _ _ _ _ _ _ _ => by kernel_rfl
theorem One.rf (ws : List Int) (n : Int) (a : Option Addr) (l c : Nat) : One (rfC ws n (.slice a l c)) := by
  intro v hv
  rcases List.mem_append.1 hv with hv | hv
  · exact One.u32 ws v hv
  · simp only [List.mem_cons, List.not_mem_nil, or_false] at hv
    rcases hv with rfl | rfl <;> rfl
theorem build_runR (c0 c1 c2 c3 c4 c5 c6 c7 n : Int) (a : Option Addr) (l c : Nat) (w : World) : Sem.run Tryd.prog (Instr.build 29 #[(0, Value.agg (u32s [c0, c1, c2, c3, c4, c5, c6, c7]).toArray), (1, Value.int IntKind.i64 n), (2, Value.slice a l c)]) w =
    .ok (.agg (rfC [c0, c1, c2, c3, c4, c5, c6, c7] n (.slice a l c)).toArray) w := by kernel_rfl
theorem run_buildR {dst : Option Tmp} {ty : TypeId} {pos : String} {aft : Array Edge} {gd : Option (Nat × Bool)} {a : Act} {w : World} {x y z : Operand} {ws : List Int} {n : Int} {ad : Option Addr} {l c : Nat} (hx : a.eval x = .agg (u32s ws).toArray) (hy : a.eval y = .int .i64 n) (hz : a.eval z = .slice ad l c) (hw : ws.length = 8) :
    (execOp a.eval ⟨dst, .build 29 #[(0, x), (1, y), (2, z)], ty, pos, aft, gd⟩).run Tryd.prog w = .ok (.value (.agg (rfC ws n (.slice ad l c)).toArray)) w := by
  obtain ⟨c0, c1, c2, c3, c4, c5, c6, c7, rfl⟩ := eight ws hw
  unfold execOp
  simp only [List.map_toArray, List.map_cons, List.map_nil, hx, hy, hz]
  simp only [Sem.run_bind, build_runR, Result.andThen_ok, Sem.run_pure]
set_option maxRecDepth 100000 in
set_option maxHeartbeats 2000000 in
theorem rwrite_any (h : List Int) (n0 : Nat) (m : List Int) (a : Option Addr) (cap : Nat) (a1 : Option Addr) (len1 cap1 : Nat) (xs : List Int) (w : World) (hh : h.length = 8) (hn0 : n0 % 64 = 0) (hs : Sl w a (m.length % 64) cap (tl m)) (hs1 : Sl w a1 len1 cap1 xs) (hl1 : len1 ≤ 140737488351232) (hbd : n0 + m.length + len1 ≤ 2305843009213693951) :
    Calls Tryd.prog 14 #[.agg (rfC (ov h m (bk m)) ((n0 + m.length : Nat) : Int) (.slice a (m.length % 64) cap)).toArray, .slice a1 len1 cap1] w fun e w' => ∃ a' cap', e = .returned (.tuple #[.agg (rfC (ov h (m ++ xs) (bk (m ++ xs))) ((n0 + (m ++ xs).length : Nat) : Int) (.slice a' ((m ++ xs).length % 64) cap')).toArray, .int .i64 0]) ∧ Sl w' a' ((m ++ xs).length % 64) cap' (tl (m ++ xs)) ∧ (∀ x, a' = some x → w.heap.size ≤ x.block) ∧ Below w.heap.size w w' := by
  have HOL := hide (ov_length h m hh (bk m))
  have HS := hide hs
  have HS1 := hide hs1
  have HTL := hide (tl_length m)
  have HX := hide hs1.hlen
  have HZB := hide (hs.hbyte.append hs1.hbyte)
  obtain ⟨z, hz⟩ : ∃ z, tl m ++ xs = z := ⟨_, rfl⟩
  have HZL := hide (show z.length = m.length % 64 + len1 by rw [← hz, List.length_append, HTL.out, HX.out])
  have EOV : Hid (ov h (m ++ xs) (bk (m ++ xs)) = ov (ov h m (bk m)) (z.take (64 * bk z)) (bk (z.take (64 * bk z)))) := hide (by
    rw [ov_tl, hz, ← ov_head]
    congr 1
    rw [bk, bk, List.length_take]
    omega)
  have ETL : Hid (tl (m ++ xs) = z.drop (64 * bk z)) := hide (by
    have e : m ++ xs = m.take (64 * bk m) ++ z := by rw [← hz, ← List.append_assoc, head_tl]
    have hP := head_length m
    generalize m.take (64 * bk m) = P at e hP
    unfold tl
    rw [e, bk_split P z (bk m) hP, Nat.mul_add, ← hP, ← List.drop_drop, List.drop_left])
  have HZ := hide hz
  have EML : Hid ((m ++ xs).length = m.length + len1) := hide (by rw [List.length_append, HX.out])
  have EBZ : Hid (bk z = (m.length % 64 + len1) / 64) := hide (by rw [bk, HZL.out])
  clear hs hs1 hh hz
  generalize hN : n0 + m.length = N at *
  generalize hr : m.length % 64 = r at *
  have hr64 : r < 64 := by omega
  have QN := hide hN
  have Qr := hide hr
  clear hN hr
  have c1 : ¬ ((2305843009213693951 : Int) - (N : Int) < (len1 : Int)) := by omega
  go_enter Tryd.func14, Tryd.ntmps14
  go_wp2_with (refine step_box rfl rfl ?_)
  intro w1 g2 hg1 hle1 hb1
  go_wp2_with (refine step_alloc zRS rfl ?_)
  intro w2 g4 hg2 hle2 hb2
  have HB2 := hide (hb1.trans (hb2.mono hb1.size))
  have G2 := hide (hg1.below hb2 hg1.lt)
  have G4 := hide hg2
  have n24 : g2 ≠ g4 := by have := hg1.lt; omega
  have l4 : w.heap.size ≤ g4 := by have := hb1.size; omega
  have S2 := hide (HS.out.below HB2.out)
  have T2 := hide (HS1.out.below HB2.out)
  have d8 : w2.cell? ⟨g2, 8, none⟩ = some (.int .i64 (N : Int)) := by rw [G2.out.cell]; exact rfC_n _ _ _ HOL.out
  have d9 : w2.cell? ⟨g2, 9, none⟩ = some (.slice a r cap) := by rw [G2.out.cell]; exact rfC_v _ _ _ HOL.out
  clear hg1 hg2 hb1 hb2 hle2
  have ho0 : Own (w2.alloc (.cells #[] 5)) w2.heap.size (.slice (some ⟨w2.heap.size, 0, none⟩) 0 0) [] := Own.of_blk (xs := []) (Blk.made w2 5 []) (Nat.le_refl _) (by simp)
  have hb0 : Below w2.heap.size w2 (w2.alloc (.cells #[] 5)) := (Below.refl _ _).alloc (Nat.le_refl _) _
  have d9a : (w2.alloc (.cells #[] 5)).cell? ⟨g2, 9, none⟩ = some (.slice a r cap) := by
    rw [(G2.out.below hb0 G2.out.lt).cell]; exact rfC_v _ _ _ HOL.out
  go_wp2_with (refine step_append rfl rfl rfl ho0 (S2.out.below hb0) (by simp; omega) (by simp) ?_)
  intro v3 w3 ho3 hg3 hn3
  have B3 := hide (hb0.trans (Below.of_grown hg3 hb0.size ho0.lt))
  have hv3 : v3 ≠ .slice none 0 0 := fun e => by have e2 := (hn3 e).1; cases e2
  rw [List.nil_append] at ho3
  have O3 := hide ho3
  clear ho0 hb0 hg3 hn3 ho3
  go_wp2_with (refine step_append rfl rfl rfl O3.out (T2.out.below B3.out) (by rw [HTL.out]; omega) B3.out.size ?_)
  intro v4 w4 ho4 hg4 hn4
  have B4 := hide (B3.out.grown hg4 B3.out.size O3.out.lt)
  have hv4 : v4 ≠ .slice none 0 0 := fun e => hv3 (hn4 e).1
  rw [HZ.out] at ho4
  have HZB2 := hide HZB.out
  rw [HZ.out] at HZB2
  obtain ⟨ga, ca, ea, _, hsa⟩ := ho4.sl HZB2.out (by rw [HZL.out]; omega) hv4
  subst ea
  rw [HZL.out] at hsa ⊢
  have SA := hide hsa
  clear hg4 hn4 ho4 O3 hv3 hv4 B3 d8 d9 hsa
  have htd : ((r : Int) + (len1 : Int)).tdiv 64 = (((r + len1) / 64 : Nat) : Int) := by rw [Int.tdiv_eq_ediv_of_nonneg (by omega)]; omega
  go_wp2_with fail
  obtain ⟨V, hV⟩ : ∃ V, ov h (m ++ xs) (bk (m ++ xs)) = V := ⟨_, rfl⟩
  have HVL := hide (show V.length = 8 by rw [← hV, EOV.out]; exact ov_length _ _ HOL.out _)
  have EV := hide (EOV.out.symm.trans hV)
  obtain ⟨k, hk⟩ : ∃ k : Nat, (r + len1) / 64 * 64 = k := ⟨_, rfl⟩
  have Ek : ((r : Int) + (len1 : Int)) / 64 * 64 = (k : Int) := by omega
  have hkl : k ≤ r + len1 := by omega
  have E64 : 64 * bk z = k := by rw [EBZ.out]; omega
  rw [E64] at EV
  have ETL2 := hide (ETL.out.trans (by rw [E64] : _ = z.drop k))
  have xt := sl_to ga (r + len1) ca k _ Ek (by have := SA.out.hcap; omega)
  obtain ⟨a', xf, hxf, hxb⟩ := sl_from ga (r + len1) ca k _ Ek hkl SA.out.hcap
  have SK := hide (SA.out.take k hkl)
  have G24 := hide (G2.out.below B4.out G2.out.lt)
  have G44 := hide (G4.out.below B4.out G4.out.lt)
  have hu1 := aW8.und
  have hi1 : (Tryd.prog.info? 26).map (·.size) = some (u32s (ov h m (bk m))).length := by rw [wW.size, u32s_length, HOL.out]
  have rg : ∀ w', Blk w' g2 29 (rfC (ov h m (bk m)) (N : Int) (.slice a r cap)) → w'.rangeAt g2 0 (u32s (ov h m (bk m))) ∧ w'.cell? ⟨g2, 8, none⟩ = some (.int .i64 (N : Int)) := fun w' hb => ⟨hb.range 0 _ (by have := rfC_words (ov h m (bk m)) (N : Int) (.slice a r cap) HOL.out; rw [u32s_length, HOL.out]; exact this), by rw [hb.cell]; exact rfC_n _ _ _ HOL.out⟩
  have b4 : Below w4.heap.size w4 w4.drew := (Below.refl _ _).drew
  refine wp_region_noPanic ?_
  refine wp_region_held_drew (S := fun v : World => v.rangeAt g2 0 (u32s (ov h m (bk m))) ∧ v.cell? ⟨g2, 8, none⟩ = some (.int .i64 (N : Int))) (by kernel_rfl) (rg _ G24.out) (fun hHeld => ?_)
  refine takeH 0 25 (.pointer (some ⟨g2, 0, none⟩)) hHeld rfl rfl (by kernel_rfl) (by kernel_rfl) (by kernel_rfl) (fun _ _ _ h => h) (Or.inl ⟨by rfl, fun w _ => by go_simp⟩) ?_
  simp only [Act.put, List.setIfInBounds_toArray, List.set_cons_zero, List.set_cons_succ]
  refine takeH 1 26 (.agg (u32s (ov h m (bk m))).toArray) hHeld rfl rfl (by kernel_rfl) (by kernel_rfl) (by kernel_rfl) (fun _ _ _ h => h) (yieldsIf_load_mid (by rfl) _ _ rfl g2 0 rfl _ _ (fun w h => h.1) hu1 rfl hi1) ?_
  simp only [Act.put, List.setIfInBounds_toArray, List.set_cons_zero, List.set_cons_succ]
  refine takeH 2 27 (.slice (some ⟨ga, 0, none⟩) (r + len1) ca) hHeld rfl rfl (by kernel_rfl) (by kernel_rfl) (by kernel_rfl) (fun _ _ _ h => h) (Or.inl ⟨by rfl, fun w _ => by go_simp⟩) ?_
  simp only [Act.put, List.setIfInBounds_toArray, List.set_cons_zero, List.set_cons_succ]
  refine takeH 3 28 (.int .i64 (((r : Int) + (len1 : Int)) / 64 * 64)) hHeld rfl rfl (by kernel_rfl) (by kernel_rfl) (by kernel_rfl) (fun _ _ _ h => h) (Or.inl ⟨by rfl, fun w _ => by go_simp⟩) ?_
  simp only [Act.put, List.setIfInBounds_toArray, List.set_cons_zero, List.set_cons_succ]
  refine takeH 4 29 (.slice (some ⟨ga, 0, none⟩) k ca) hHeld rfl rfl (by kernel_rfl) (by kernel_rfl) (by kernel_rfl) (fun _ _ _ h => h) (Or.inl ⟨by rfl, fun w _ => run_op rfl (xt w)⟩) ?_
  simp only [Act.put, List.setIfInBounds_toArray, List.set_cons_zero, List.set_cons_succ]
  refine takeH 6 31 (.pointer (some ⟨g2, 8, none⟩)) hHeld rfl rfl (by kernel_rfl) (by kernel_rfl) (by kernel_rfl) (fun _ _ _ h => h) (Or.inl ⟨by rfl, fun w _ => by go_simp⟩) ?_
  simp only [Act.put, List.setIfInBounds_toArray, List.set_cons_zero, List.set_cons_succ]
  refine takeH 7 32 (.int .i64 (N : Int)) hHeld rfl rfl (by kernel_rfl) (by kernel_rfl) (by kernel_rfl) (fun _ _ _ h => h) (Or.inl ⟨by rfl, fun w hw => by have hw' : w.cell? ⟨g2, 8, none⟩ = some (.int .i64 (N : Int)) := hw.2; go_simp⟩) ?_
  simp only [Act.put, List.setIfInBounds_toArray, List.set_cons_zero, List.set_cons_succ]
  refine takeH 8 33 (.slice a1 len1 cap1) hHeld rfl rfl (by kernel_rfl) (by kernel_rfl) (by kernel_rfl) (fun _ _ _ h => h) (Or.inl ⟨by rfl, fun w _ => by go_simp⟩) ?_
  simp only [Act.put, List.setIfInBounds_toArray, List.set_cons_zero, List.set_cons_succ]
  refine takeH 9 34 (.int .i64 (len1 : Int)) hHeld rfl rfl (by kernel_rfl) (by kernel_rfl) (by kernel_rfl) (fun _ _ _ h => h) (Or.inl ⟨by rfl, fun w _ => by go_simp⟩) ?_
  simp only [Act.put, List.setIfInBounds_toArray, List.set_cons_zero, List.set_cons_succ]
  refine takeH 10 35 (.int .i64 ((N : Int) + (len1 : Int))) hHeld rfl rfl (by kernel_rfl) (by kernel_rfl) (by kernel_rfl) (fun _ _ _ h => h) (Or.inl ⟨by rfl, fun w _ => by go_simp; rw [IntKind.wrap_i64]; omega⟩) ?_
  simp only [Act.put, List.setIfInBounds_toArray, List.set_cons_zero, List.set_cons_succ]
  refine takeH 11 36 (.slice (some ⟨ga, 0, none⟩) (r + len1) ca) hHeld rfl rfl (by kernel_rfl) (by kernel_rfl) (by kernel_rfl) (fun _ _ _ h => h) (Or.inl ⟨by rfl, fun w _ => by go_simp⟩) ?_
  simp only [Act.put, List.setIfInBounds_toArray, List.set_cons_zero, List.set_cons_succ]
  refine takeH 12 37 (.int .i64 (((r : Int) + (len1 : Int)) / 64 * 64)) hHeld rfl rfl (by kernel_rfl) (by kernel_rfl) (by kernel_rfl) (fun _ _ _ h => h) (Or.inl ⟨by rfl, fun w _ => by go_simp⟩) ?_
  simp only [Act.put, List.setIfInBounds_toArray, List.set_cons_zero, List.set_cons_succ]
  refine takeH 13 38 (.slice a' (r + len1 - k) (ca - k)) hHeld rfl rfl (by kernel_rfl) (by kernel_rfl) (by kernel_rfl) (fun _ _ _ h => h) (Or.inl ⟨by rfl, fun w _ => run_op rfl (xf w)⟩) ?_
  simp only [Act.put, List.setIfInBounds_toArray, List.set_cons_zero, List.set_cons_succ]
  refine wpAnyH_ready (rs := [5]) (by kernel_rfl) (by simp) (AllReadyH.cons rfl (fun K hK => ?_) AllReadyH.nil)
  rw [if_pos (by rfl)]
  go_simp
  refine (overR_any _ _ _ _ _ _ HOL.out (SK.out.below b4)).mono ?_
  rintro e w5 ⟨rfl, hb5⟩
  rw [EV.out]
  have b5 := b4.trans (hb5.mono b4.size)
  refine hK.out _ _ (rg _ (G24.out.below b5 G24.out.lt)) (fun hHeld => ?_)
  clear hK K
  try simp only [Act.put, List.setIfInBounds_toArray, List.set_cons_zero, List.set_cons_succ]
  refine takeH 14 39 (.agg (rfC V ((N : Int) + (len1 : Int)) (.slice a' (r + len1 - k) (ca - k))).toArray) hHeld rfl rfl (by kernel_rfl) (by kernel_rfl) (by kernel_rfl) (fun _ _ _ h => h) (Or.inl ⟨by rfl, fun w _ => run_buildR rfl rfl rfl HVL.out⟩) ?_
  simp only [Act.put, List.setIfInBounds_toArray, List.set_cons_zero, List.set_cons_succ]
  refine wpAnyH_ready (rs := [15]) (by kernel_rfl) (by simp) (AllReadyH.cons rfl (fun K hK => ?_) AllReadyH.nil)
  rw [if_pos (by rfl)]
  refine wp_storeW wRS rfl (g := g4) (off := 0) (vs := rfC V ((N : Int) + (len1 : Int)) (.slice a' (r + len1 - k) (ca - k))) rfl rfl (G44.out.below b5 G44.out.lt) (rfC_length _ _ _ HVL.out) (One.rf _ _ _ _ _) (Nat.le_refl _) ?_
  intro w6 hg6 hbut6
  have e6 : spl (rfC (zer 8) 0 (.slice none 0 0)) (rfC V ((N : Int) + (len1 : Int)) (.slice a' (r + len1 - k) (ca - k))) 0 = rfC V ((N : Int) + (len1 : Int)) (.slice a' (r + len1 - k) (ca - k)) := by
    unfold spl
    rw [List.drop_of_length_le (by rw [rfC_length _ _ _ HVL.out]; exact Nat.le_refl _)]
    simp
  rw [e6] at hg6
  refine hK.out _ _ (rg _ ((G24.out.below b5 G24.out.lt).but hbut6 n24)) (fun hHeld => ?_)
  clear hK K
  simp only [Act.put, List.setIfInBounds_toArray]
  refine takeH 16 5 (.int .i64 0) hHeld rfl rfl (by kernel_rfl) (by kernel_rfl) (by kernel_rfl) (fun _ _ _ h => h) (Or.inl ⟨by rfl, fun w _ => by go_simp⟩) ?_
  simp only [Act.put]
  refine wpAnyH_done (by kernel_rfl) ?_ _
  refine NoPanic.normal ?_
  clear hHeld
  have l42 : g4 < w2.heap.size := G4.out.lt
  have SF := hide ((hxf _ _ (SA.out.below b5)).but hbut6 (fun _ x hx => by have := hxb x hx; omega))
  have e1 : (n0 : Int) + ((m.length : Int) + (xs.length : Int)) = (N : Int) + (len1 : Int) := by rw [HX.out]; have := QN.out; omega
  have e2 : (m.length + xs.length) % 64 = r + len1 - k := by rw [HX.out]; have := Qr.out; omega
  have BF := hide (HB2.out.trans ((B4.out.mono HB2.out.size).trans ((b5.mono (Nat.le_trans HB2.out.size B4.out.size)).trans (hbut6.below l4))))
  go_wp2
  refine bodyPost_ret (results_wide2 rfl wRS _ _ rfl hg6 (rfC_length _ _ _ HVL.out)) rfl ⟨a', ca - k, ?_, ?_, ?_, ?_⟩
  · rfl
  · rw [ETL2.out]; exact SF.out
  · intro x hx
    rw [hxb x hx]
    have := HB2.out.size
    omega
  · exact BF.out

end Go.Proofs.YtefaabmkcgdkiaaDoor
