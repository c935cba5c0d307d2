/-
  The document's End and Sum; the program's Sum.
-/
import Derived.Test.YtnlpgkfmjlljdaaDoorRf
namespace Go.Proofs.YtnlpgkfmjlljdaaDoor
open Go.RowKit
set_option linter.unusedVariables false

theorem wp_run {P : Program} {o : Oper} {a : Act} {w : World} {K : Act → World → Prop} {Q : Exit → Act → World → Prop} (v : Value) (w' : World) (hrun : (execOp a.eval o).run P w = .ok (.value v) w') (h : K (a.put o.dst v) w') : Oper.wp P o a w K Q := by
  unfold Oper.wp
  rw [hrun, Oper.upon_value]
  exact h
section
variable {dst : Option Tmp} {ty : TypeId} {pos : String} {aft : Array Edge} {gd : Option (Nat × Bool)} {a : Act} {w : World} {K : Act → World → Prop} {Q : Exit → Act → World → Prop}
set_option maxRecDepth 100000 in
theorem wp_allocG {T : TypeId} {cs : List Value} (hz : Zeroed T cs) (h : ∀ w1 g, Blk w1 g T cs → w.heap.size ≤ g → Below w.heap.size w w1 → K (a.put dst (.pointer (some ⟨g, 0, none⟩))) w1) :
    Oper.wp Tryd.prog ⟨dst, .alloc T, ty, pos, aft, gd⟩ a w K Q :=
  wp_run _ _ (hz a.eval dst ty pos aft gd w) (h _ _ (Blk.made _ _ _) (Nat.le_refl _) ((Below.refl _ _).alloc (Nat.le_refl _) _))
set_option maxRecDepth 100000 in
theorem wp_empty (h : ∀ w1 v, Own w1 w.heap.size v [] → v ≠ .slice none 0 0 → Below w.heap.size w w1 → K (a.put dst v) w1) :
    Oper.wp Tryd.prog ⟨dst, .buildSlice 36 0 #[], ty, pos, aft, gd⟩ a w K Q :=
  wp_run (.slice (some ⟨w.heap.size, 0, none⟩) 0 0) (w.alloc (.cells #[] 5)) (by kernel_rfl)
    (h _ _ (Own.of_blk (xs := []) (Blk.made w 5 []) (Nat.le_refl _) (by simp)) (by intro h; cases h) ((Below.refl _ _).alloc (Nat.le_refl _) _))
end
theorem Blk.grown {w w' : World} {g B : Nat} {t : TypeId} {cs : List Value} {v : Value} {xs : List Int} (h : Blk w g t cs) (ht : t ≠ 5) (ho : Own w B v xs) (hg : w.grownBy w' v.ownBlock) : Blk w' g t cs := by
  have hne : some g ≠ v.ownBlock := by
    intro e
    rcases ho.2 with ⟨rfl, _⟩ | ⟨k, cap, cur, rfl, _, hh, _⟩
    · cases e
    · simp only [Value.ownBlock, Option.some.injEq] at e
      subst e
      rw [h] at hh
      injection hh with hh
      injection hh with _ h2 _
      exact ht h2
  unfold Blk
  rw [hg.block g h.lt hne]
  exact h

set_option maxRecDepth 100000 in
set_option maxHeartbeats 2000000 in
theorem endR_any (h : List Int) (n : Nat) (a : Option Addr) (len cap : Nat) (xs : List Int) (w : World) (hh : h.length = 8) (hw : isW h) (hn : n ≤ 2305843009213693951) (hs : Sl w a len cap xs) (hl : len ≤ 140737488355200) :
    Calls Tryd.prog 81 #[.agg (u32s h).toArray, .int .i64 n, .slice a len cap] w fun e w' => e = .returned (.agg (u8s (wb (ov h (xs ++ pad n) (bk (xs ++ pad n))))).toArray) ∧ Below w.heap.size w w' := by
  have HH := hide hh
  have HW := hide hw
  have HX := hide hs.hlen
  have HXB := hide hs.hbyte
  have HS0 := hide hs
  clear hs hh hw
  go_enter Tryd.func81, Tryd.ntmps81
  go_wp2_with (refine step_box rfl rfl ?_)
  intro w1 g3 hg1 hle1 hb1
  go_wp2_with (refine step_alloc zD0 rfl ?_)
  intro w2 g6 hg2 hle2 hb2
  have hb12 : Below w.heap.size w w2 := hb1.trans (hb2.mono hb1.size)
  have G3 := hide (hg1.below hb2 hg1.lt)
  have G6 := hide hg2
  have l6 : w.heap.size ≤ g6 := by have := hb1.size; omega
  have S2 := hide (HS0.out.below hb12)
  clear hg1 hg2 hb1 hb2 hle2 hle1
  go_wp2_with fail
  refine (paddingR_any n _ hn).mono ?_
  rintro e w3 ⟨v, rfl, ho, hne, hb3⟩
  have hz := padZ_lt n
  have HPL := hide (pad_length n)
  have HPB := hide (pad_isB n)
  obtain ⟨gp, cp, e, hgp, hsp⟩ := ho.sl HPB.out (by rw [HPL.out]; omega) hne
  subst e
  rw [HPL.out] at hsp ⊢
  have SP := hide hsp
  have S3 := hide (S2.out.below hb3)
  have G33 := hide (G3.out.below hb3 G3.out.lt)
  have G63 := hide (G6.out.below hb3 G6.out.lt)
  have HB3 := hide (hb12.trans (hb3.mono hb12.size))
  have r3 : w3.rangeAt g3 0 (u32s h) := G33.out.range 0 _ (by simp)
  have hu1 := aW8.und
  have hi1 : (Tryd.prog.info? 112).map (·.size) = some (u32s h).length := by rw [wW.size, u32s_length, HH.out]
  clear ho hne hsp hb3 hb12 S2 G3 G6 hgp
  go_wp2_with fail
  have HOL := hide (ov_length h (xs ++ pad n) HH.out (bk (xs ++ pad n)))
  have HOW := hide (ov_isW h (xs ++ pad n) HW.out (bk (xs ++ pad n)))
  have HWL := hide (show (wb (ov h (xs ++ pad n) (bk (xs ++ pad n)))).length = 32 by rw [wb_length, HOL.out])
  obtain ⟨LL, hLL⟩ : ∃ LL, (xs ++ pad n).length = LL := ⟨_, rfl⟩
  have HLL := hide hLL
  clear hLL
  have b3 : Below w3.heap.size w3 w3.drew := (Below.refl _ _).drew
  refine wp_region_noPanic ?_
  refine wp_region_held_drew (S := fun v : World => v.rangeAt g3 0 (u32s h)) (by kernel_rfl) r3 (fun hHeld => ?_)
  refine takeH 0 18 (.agg (u32s h).toArray) hHeld rfl rfl (by kernel_rfl) (by kernel_rfl) (by kernel_rfl) (fun _ _ _ h => h) (yieldsIf_load_mid (by rfl) _ _ rfl g3 0 rfl _ _ (fun w h => h) hu1 rfl hi1) ?_
  simp only [Act.put, List.setIfInBounds_toArray, List.set_cons_zero, List.set_cons_succ]
  refine takeH 2 20 (.slice a len cap) hHeld rfl rfl (by kernel_rfl) (by kernel_rfl) (by kernel_rfl) (fun _ _ _ h => h) (Or.inl ⟨by rfl, fun w _ => by go_simp⟩) ?_
  simp only [Act.put, List.setIfInBounds_toArray, List.set_cons_zero, List.set_cons_succ]
  refine takeH 4 22 (.slice (some ⟨gp, 0, none⟩) (padZ n + 9) cp) hHeld rfl rfl (by kernel_rfl) (by kernel_rfl) (by kernel_rfl) (fun _ _ _ h => h) (Or.inl ⟨by rfl, fun w _ => by go_simp⟩) ?_
  simp only [Act.put, List.setIfInBounds_toArray, List.set_cons_zero, List.set_cons_succ]
  refine wpAnyH_ready (rs := [1, 13]) (by kernel_rfl) (by simp) (AllReadyH.cons rfl (fun K hK => ?_) (AllReadyH.cons rfl (fun K hK => ?_) AllReadyH.nil))
  · rw [if_pos (by rfl)]
    refine wp_empty ?_
    intro w4 v4 ho4 hn4 hx4
    have b4 := b3.trans (hx4.mono b3.size)
    have o4 := ho4.mono b3.size
    refine hK.out _ _ ((G33.out.below b4 G33.out.lt).range 0 _ (by simp)) (fun hHeld => ?_)
    clear hK K
    simp only [Act.put, List.setIfInBounds_toArray]
    refine wpAnyH_ready (rs := [3, 13]) (by kernel_rfl) (by simp) (AllReadyH.cons rfl (fun K hK => ?_) (AllReadyH.cons rfl (fun K hK => ?_) AllReadyH.nil))
    · rw [if_pos (by rfl)]
      refine wp_appendB rfl rfl rfl o4 (S3.out.below b4) (by simp; omega) b4.size ?_
      intro v5 w5 ho5 hx5 hm5
      have b5 := b4.grown hx5 b4.size o4.lt
      have hn5 : v5 ≠ .slice none 0 0 := fun e => hn4 (hm5 e).1
      rw [List.nil_append] at ho5
      refine hK.out _ _ ((G33.out.below b5 G33.out.lt).range 0 _ (by simp)) (fun hHeld => ?_)
      clear hK K
      simp only [Act.put]
      refine wpAnyH_ready (rs := [5, 13]) (by kernel_rfl) (by simp) (AllReadyH.cons rfl (fun K hK => ?_) (AllReadyH.cons rfl (fun K hK => ?_) AllReadyH.nil))
      · rw [if_pos (by rfl)]
        refine wp_appendB rfl rfl rfl ho5 (SP.out.below b5) (by simp [HX.out]; omega) b5.size ?_
        intro v6 w6 ho6 hx6 hm6
        have b6 := b5.grown hx6 b5.size ho5.lt
        have hn6 : v6 ≠ .slice none 0 0 := fun e => hn5 (hm6 e).1
        refine hK.out _ _ ((G33.out.below b6 G33.out.lt).range 0 _ (by simp)) (fun hHeld => ?_)
        clear hK K
        simp only [Act.put]
        refine wpAnyH_ready (rs := [6, 13]) (by kernel_rfl) (by simp) (AllReadyH.cons rfl (fun K hK => ?_) (AllReadyH.cons rfl (fun K hK => ?_) AllReadyH.nil))
        · rw [if_pos (by rfl)]
          obtain ⟨gc7, cc7, ec7, _, sc7⟩ := ho6.sl (HXB.out.append HPB.out) (by simp [HX.out, HPL.out]; omega) hn6
          rw [HLL.out] at ec7 sc7
          subst ec7
          go_simp
          refine (overR_any h _ _ _ _ _ HH.out sc7).mono ?_
          rintro e w7 ⟨rfl, hx7⟩
          have b7 := b6.trans (hx7.mono b6.size)
          refine hK.out _ _ ((G33.out.below b7 G33.out.lt).range 0 _ (by simp)) (fun hHeld => ?_)
          clear hK K
          refine wpAnyH_ready (rs := [7, 13]) (by kernel_rfl) (by simp) (AllReadyH.cons rfl (fun K hK => ?_) (AllReadyH.cons rfl (fun K hK => ?_) AllReadyH.nil))
          · rw [if_pos (by rfl)]
            go_simp
            refine (wordsR_any _ _ HOL.out HOW.out).mono ?_
            rintro e w8 ⟨v8, rfl, ho8, hn8, hx8⟩
            have b8 := b7.trans (hx8.mono b7.size)
            refine hK.out _ _ ((G33.out.below b8 G33.out.lt).range 0 _ (by simp)) (fun hHeld => ?_)
            clear hK K
            refine wpAnyH_ready (rs := [8, 13]) (by kernel_rfl) (by simp) (AllReadyH.cons rfl (fun K hK => ?_) (AllReadyH.cons rfl (fun K hK => ?_) AllReadyH.nil))
            · rw [if_pos (by rfl)]
              obtain ⟨gc9, cc9, ec9, _, sc9⟩ := ho8.sl (wb_isB _) (by rw [HWL.out]; omega) hn8
              subst ec9
              rw [HWL.out] at sc9
              go_simp
              rw [HWL.out]
              refine (digR_any _ _ _ _ sc9).mono ?_
              rintro e w9 ⟨rfl, hx9⟩
              have b9 := b8.trans (hx9.mono b8.size)
              refine hK.out _ _ ((G33.out.below b9 G33.out.lt).range 0 _ (by simp)) (fun hHeld => ?_)
              clear hK K
              refine takeH 9 17 (.tuple #[.agg (u8s (wb (ov h (xs ++ pad n) (bk (xs ++ pad n))))).toArray, .int .i64 32, .int .i64 0]) hHeld rfl rfl (by kernel_rfl) (by kernel_rfl) (by kernel_rfl) (fun _ _ _ h => h) (Or.inl ⟨by rfl, fun w _ => by go_simp⟩) ?_
              simp only [Act.put, List.setIfInBounds_toArray, List.set_cons_zero, List.set_cons_succ]
              refine takeH 10 27 (.agg (u8s (wb (ov h (xs ++ pad n) (bk (xs ++ pad n))))).toArray) hHeld rfl rfl (by kernel_rfl) (by kernel_rfl) (by kernel_rfl) (fun _ _ _ h => h) (Or.inl ⟨by rfl, fun w _ => by go_simp⟩) ?_
              simp only [Act.put, List.setIfInBounds_toArray, List.set_cons_zero, List.set_cons_succ]
              refine takeH 11 28 (.int .i64 32) hHeld rfl rfl (by kernel_rfl) (by kernel_rfl) (by kernel_rfl) (fun _ _ _ h => h) (Or.inl ⟨by rfl, fun w _ => by go_simp⟩) ?_
              simp only [Act.put, List.setIfInBounds_toArray, List.set_cons_zero, List.set_cons_succ]
              refine takeH 12 29 (.int .i64 0) hHeld rfl rfl (by kernel_rfl) (by kernel_rfl) (by kernel_rfl) (fun _ _ _ h => h) (Or.inl ⟨by rfl, fun w _ => by go_simp⟩) ?_
              simp only [Act.put, List.setIfInBounds_toArray, List.set_cons_zero, List.set_cons_succ]
              refine wpAnyH_ready (rs := [13]) (by kernel_rfl) (by simp) (AllReadyH.cons rfl (fun K hK => ?_) AllReadyH.nil)
              rw [if_pos (by rfl)]
              refine wp_allocG zD0 ?_
              intro w10 ga hga hla hba
              have b10 := b9.trans (hba.mono b9.size)
              have hGA : w3.heap.size ≤ ga := Nat.le_trans b9.size hla
              refine hK.out _ _ ((G33.out.below b10 G33.out.lt).range 0 _ (by simp)) (fun hHeld => ?_)
              clear hK K
              simp only [Act.put, List.setIfInBounds_toArray, List.set_cons_zero, List.set_cons_succ]
              refine wpAnyH_ready (rs := [14]) (by kernel_rfl) (by simp) (AllReadyH.cons rfl (fun K hK => ?_) AllReadyH.nil)
              rw [if_pos (by rfl)]
              refine wp_storeW wD0 rfl (g := ga) (off := 0) (vs := u8s (wb (ov h (xs ++ pad n) (bk (xs ++ pad n))))) rfl rfl hga (by rw [u8s_length]; exact HWL.out) (One.u8 _) (Nat.le_refl _) ?_
              intro w11 hs11 hbut11
              have b11 := b10.trans (hbut11.below hGA)
              have e11 : spl (u8s (zer 32)) (u8s (wb (ov h (xs ++ pad n) (bk (xs ++ pad n))))) 0 = u8s (wb (ov h (xs ++ pad n) (bk (xs ++ pad n)))) := spl_all _ 32 HWL.out
              rw [e11] at hs11
              refine hK.out _ _ ((G33.out.below b11 G33.out.lt).range 0 _ (by simp)) (fun hHeld => ?_)
              clear hK K
              refine takeH 15 10 (.int .i64 32) hHeld rfl rfl (by kernel_rfl) (by kernel_rfl) (by kernel_rfl) (fun _ _ _ h => h) (Or.inl ⟨by rfl, fun w _ => by go_simp⟩) ?_
              simp only [Act.put, List.setIfInBounds_toArray]
              refine takeH 16 11 (.int .i64 0) hHeld rfl rfl (by kernel_rfl) (by kernel_rfl) (by kernel_rfl) (fun _ _ _ h => h) (Or.inl ⟨by rfl, fun w _ => by go_simp⟩) ?_
              simp only [Act.put]
              refine wpAnyH_done (by kernel_rfl) ?_ _
              refine NoPanic.normal ?_
              have HGA := hide hs11
              have HG6 := hide (G63.out.below b11 G63.out.lt)
              have HBF := hide (HB3.out.trans (b11.mono HB3.out.size))
              clear hHeld
              go_wp2_with (first | (refine step_loadA wD0 rfl rfl HGA.out (by rw [u8s_length]; exact HWL.out) ?_) | (refine step_storeA wD0 rfl rfl rfl HG6.out (by rw [u8s_length]; exact HWL.out) (One.u8 _) rfl ?_; intro wz hgz hbutz))
              refine bodyPost_ret (results_wide rfl wD0 _ _ rfl hgz (by rw [u8s_length]; exact HWL.out)) rfl ⟨rfl, ?_⟩
              exact HBF.out.trans (hbutz.below l6)
            · rw [if_pos (by rfl)]
              refine wp_allocG zD0 ?_
              intro w12 ga hga hla hba
              have b12 := b8.trans (hba.mono b8.size)
              have hGA : w3.heap.size ≤ ga := Nat.le_trans b8.size hla
              have o12 := ho8.below hba
              refine hK.out _ _ ((G33.out.below b12 G33.out.lt).range 0 _ (by simp)) (fun hHeld => ?_)
              clear hK K
              simp only [Act.put, List.setIfInBounds_toArray, List.set_cons_zero, List.set_cons_succ]
              refine wpAnyH_ready (rs := [8]) (by kernel_rfl) (by simp) (AllReadyH.cons rfl (fun K hK => ?_) AllReadyH.nil)
              rw [if_pos (by rfl)]
              obtain ⟨gc13, cc13, ec13, _, sc13⟩ := o12.sl (wb_isB _) (by rw [HWL.out]; omega) hn8
              subst ec13
              rw [HWL.out] at sc13
              go_simp
              rw [HWL.out]
              refine (digR_any _ _ _ _ sc13).mono ?_
              rintro e w13 ⟨rfl, hx13⟩
              have b13 := b12.trans (hx13.mono b12.size)
              have ga13 := hga.below hx13 hga.lt
              refine hK.out _ _ ((G33.out.below b13 G33.out.lt).range 0 _ (by simp)) (fun hHeld => ?_)
              clear hK K
              refine takeH 9 17 (.tuple #[.agg (u8s (wb (ov h (xs ++ pad n) (bk (xs ++ pad n))))).toArray, .int .i64 32, .int .i64 0]) hHeld rfl rfl (by kernel_rfl) (by kernel_rfl) (by kernel_rfl) (fun _ _ _ h => h) (Or.inl ⟨by rfl, fun w _ => by go_simp⟩) ?_
              simp only [Act.put, List.setIfInBounds_toArray, List.set_cons_zero, List.set_cons_succ]
              refine takeH 10 27 (.agg (u8s (wb (ov h (xs ++ pad n) (bk (xs ++ pad n))))).toArray) hHeld rfl rfl (by kernel_rfl) (by kernel_rfl) (by kernel_rfl) (fun _ _ _ h => h) (Or.inl ⟨by rfl, fun w _ => by go_simp⟩) ?_
              simp only [Act.put, List.setIfInBounds_toArray, List.set_cons_zero, List.set_cons_succ]
              refine takeH 11 28 (.int .i64 32) hHeld rfl rfl (by kernel_rfl) (by kernel_rfl) (by kernel_rfl) (fun _ _ _ h => h) (Or.inl ⟨by rfl, fun w _ => by go_simp⟩) ?_
              simp only [Act.put, List.setIfInBounds_toArray, List.set_cons_zero, List.set_cons_succ]
              refine takeH 12 29 (.int .i64 0) hHeld rfl rfl (by kernel_rfl) (by kernel_rfl) (by kernel_rfl) (fun _ _ _ h => h) (Or.inl ⟨by rfl, fun w _ => by go_simp⟩) ?_
              simp only [Act.put, List.setIfInBounds_toArray, List.set_cons_zero, List.set_cons_succ]
              refine wpAnyH_ready (rs := [14]) (by kernel_rfl) (by simp) (AllReadyH.cons rfl (fun K hK => ?_) AllReadyH.nil)
              rw [if_pos (by rfl)]
              refine wp_storeW wD0 rfl (g := ga) (off := 0) (vs := u8s (wb (ov h (xs ++ pad n) (bk (xs ++ pad n))))) rfl rfl ga13 (by rw [u8s_length]; exact HWL.out) (One.u8 _) (Nat.le_refl _) ?_
              intro w14 hs14 hbut14
              have b14 := b13.trans (hbut14.below hGA)
              have e14 : spl (u8s (zer 32)) (u8s (wb (ov h (xs ++ pad n) (bk (xs ++ pad n))))) 0 = u8s (wb (ov h (xs ++ pad n) (bk (xs ++ pad n)))) := spl_all _ 32 HWL.out
              rw [e14] at hs14
              refine hK.out _ _ ((G33.out.below b14 G33.out.lt).range 0 _ (by simp)) (fun hHeld => ?_)
              clear hK K
              refine takeH 15 10 (.int .i64 32) hHeld rfl rfl (by kernel_rfl) (by kernel_rfl) (by kernel_rfl) (fun _ _ _ h => h) (Or.inl ⟨by rfl, fun w _ => by go_simp⟩) ?_
              simp only [Act.put, List.setIfInBounds_toArray]
              refine takeH 16 11 (.int .i64 0) hHeld rfl rfl (by kernel_rfl) (by kernel_rfl) (by kernel_rfl) (fun _ _ _ h => h) (Or.inl ⟨by rfl, fun w _ => by go_simp⟩) ?_
              simp only [Act.put]
              refine wpAnyH_done (by kernel_rfl) ?_ _
              refine NoPanic.normal ?_
              have HGA := hide hs14
              have HG6 := hide (G63.out.below b14 G63.out.lt)
              have HBF := hide (HB3.out.trans (b14.mono HB3.out.size))
              clear hHeld
              go_wp2_with (first | (refine step_loadA wD0 rfl rfl HGA.out (by rw [u8s_length]; exact HWL.out) ?_) | (refine step_storeA wD0 rfl rfl rfl HG6.out (by rw [u8s_length]; exact HWL.out) (One.u8 _) rfl ?_; intro wz hgz hbutz))
              refine bodyPost_ret (results_wide rfl wD0 _ _ rfl hgz (by rw [u8s_length]; exact HWL.out)) rfl ⟨rfl, ?_⟩
              exact HBF.out.trans (hbutz.below l6)
          · rw [if_pos (by rfl)]
            refine wp_allocG zD0 ?_
            intro w15 ga hga hla hba
            have b15 := b7.trans (hba.mono b7.size)
            have hGA : w3.heap.size ≤ ga := Nat.le_trans b7.size hla
            refine hK.out _ _ ((G33.out.below b15 G33.out.lt).range 0 _ (by simp)) (fun hHeld => ?_)
            clear hK K
            simp only [Act.put, List.setIfInBounds_toArray, List.set_cons_zero, List.set_cons_succ]
            refine wpAnyH_ready (rs := [7]) (by kernel_rfl) (by simp) (AllReadyH.cons rfl (fun K hK => ?_) AllReadyH.nil)
            rw [if_pos (by rfl)]
            go_simp
            refine (wordsR_any _ _ HOL.out HOW.out).mono ?_
            rintro e w16 ⟨v16, rfl, ho16, hn16, hx16⟩
            have b16 := b15.trans (hx16.mono b15.size)
            have ga16 := hga.below hx16 hga.lt
            refine hK.out _ _ ((G33.out.below b16 G33.out.lt).range 0 _ (by simp)) (fun hHeld => ?_)
            clear hK K
            refine wpAnyH_ready (rs := [8]) (by kernel_rfl) (by simp) (AllReadyH.cons rfl (fun K hK => ?_) AllReadyH.nil)
            rw [if_pos (by rfl)]
            obtain ⟨gc17, cc17, ec17, _, sc17⟩ := ho16.sl (wb_isB _) (by rw [HWL.out]; omega) hn16
            subst ec17
            rw [HWL.out] at sc17
            go_simp
            rw [HWL.out]
            refine (digR_any _ _ _ _ sc17).mono ?_
            rintro e w17 ⟨rfl, hx17⟩
            have b17 := b16.trans (hx17.mono b16.size)
            have ga17 := ga16.below hx17 ga16.lt
            refine hK.out _ _ ((G33.out.below b17 G33.out.lt).range 0 _ (by simp)) (fun hHeld => ?_)
            clear hK K
            refine takeH 9 17 (.tuple #[.agg (u8s (wb (ov h (xs ++ pad n) (bk (xs ++ pad n))))).toArray, .int .i64 32, .int .i64 0]) hHeld rfl rfl (by kernel_rfl) (by kernel_rfl) (by kernel_rfl) (fun _ _ _ h => h) (Or.inl ⟨by rfl, fun w _ => by go_simp⟩) ?_
            simp only [Act.put, List.setIfInBounds_toArray, List.set_cons_zero, List.set_cons_succ]
            refine takeH 10 27 (.agg (u8s (wb (ov h (xs ++ pad n) (bk (xs ++ pad n))))).toArray) hHeld rfl rfl (by kernel_rfl) (by kernel_rfl) (by kernel_rfl) (fun _ _ _ h => h) (Or.inl ⟨by rfl, fun w _ => by go_simp⟩) ?_
            simp only [Act.put, List.setIfInBounds_toArray, List.set_cons_zero, List.set_cons_succ]
            refine takeH 11 28 (.int .i64 32) hHeld rfl rfl (by kernel_rfl) (by kernel_rfl) (by kernel_rfl) (fun _ _ _ h => h) (Or.inl ⟨by rfl, fun w _ => by go_simp⟩) ?_
            simp only [Act.put, List.setIfInBounds_toArray, List.set_cons_zero, List.set_cons_succ]
            refine takeH 12 29 (.int .i64 0) hHeld rfl rfl (by kernel_rfl) (by kernel_rfl) (by kernel_rfl) (fun _ _ _ h => h) (Or.inl ⟨by rfl, fun w _ => by go_simp⟩) ?_
            simp only [Act.put, List.setIfInBounds_toArray, List.set_cons_zero, List.set_cons_succ]
            refine wpAnyH_ready (rs := [14]) (by kernel_rfl) (by simp) (AllReadyH.cons rfl (fun K hK => ?_) AllReadyH.nil)
            rw [if_pos (by rfl)]
            refine wp_storeW wD0 rfl (g := ga) (off := 0) (vs := u8s (wb (ov h (xs ++ pad n) (bk (xs ++ pad n))))) rfl rfl ga17 (by rw [u8s_length]; exact HWL.out) (One.u8 _) (Nat.le_refl _) ?_
            intro w18 hs18 hbut18
            have b18 := b17.trans (hbut18.below hGA)
            have e18 : spl (u8s (zer 32)) (u8s (wb (ov h (xs ++ pad n) (bk (xs ++ pad n))))) 0 = u8s (wb (ov h (xs ++ pad n) (bk (xs ++ pad n)))) := spl_all _ 32 HWL.out
            rw [e18] at hs18
            refine hK.out _ _ ((G33.out.below b18 G33.out.lt).range 0 _ (by simp)) (fun hHeld => ?_)
            clear hK K
            refine takeH 15 10 (.int .i64 32) hHeld rfl rfl (by kernel_rfl) (by kernel_rfl) (by kernel_rfl) (fun _ _ _ h => h) (Or.inl ⟨by rfl, fun w _ => by go_simp⟩) ?_
            simp only [Act.put, List.setIfInBounds_toArray]
            refine takeH 16 11 (.int .i64 0) hHeld rfl rfl (by kernel_rfl) (by kernel_rfl) (by kernel_rfl) (fun _ _ _ h => h) (Or.inl ⟨by rfl, fun w _ => by go_simp⟩) ?_
            simp only [Act.put]
            refine wpAnyH_done (by kernel_rfl) ?_ _
            refine NoPanic.normal ?_
            have HGA := hide hs18
            have HG6 := hide (G63.out.below b18 G63.out.lt)
            have HBF := hide (HB3.out.trans (b18.mono HB3.out.size))
            clear hHeld
            go_wp2_with (first | (refine step_loadA wD0 rfl rfl HGA.out (by rw [u8s_length]; exact HWL.out) ?_) | (refine step_storeA wD0 rfl rfl rfl HG6.out (by rw [u8s_length]; exact HWL.out) (One.u8 _) rfl ?_; intro wz hgz hbutz))
            refine bodyPost_ret (results_wide rfl wD0 _ _ rfl hgz (by rw [u8s_length]; exact HWL.out)) rfl ⟨rfl, ?_⟩
            exact HBF.out.trans (hbutz.below l6)
        · rw [if_pos (by rfl)]
          refine wp_allocG zD0 ?_
          intro w19 ga hga hla hba
          have b19 := b6.trans (hba.mono b6.size)
          have hGA : w3.heap.size ≤ ga := Nat.le_trans b6.size hla
          have o19 := ho6.below hba
          refine hK.out _ _ ((G33.out.below b19 G33.out.lt).range 0 _ (by simp)) (fun hHeld => ?_)
          clear hK K
          simp only [Act.put, List.setIfInBounds_toArray, List.set_cons_zero, List.set_cons_succ]
          refine wpAnyH_ready (rs := [6]) (by kernel_rfl) (by simp) (AllReadyH.cons rfl (fun K hK => ?_) AllReadyH.nil)
          rw [if_pos (by rfl)]
          obtain ⟨gc20, cc20, ec20, _, sc20⟩ := o19.sl (HXB.out.append HPB.out) (by simp [HX.out, HPL.out]; omega) hn6
          rw [HLL.out] at ec20 sc20
          subst ec20
          go_simp
          refine (overR_any h _ _ _ _ _ HH.out sc20).mono ?_
          rintro e w20 ⟨rfl, hx20⟩
          have b20 := b19.trans (hx20.mono b19.size)
          have ga20 := hga.below hx20 hga.lt
          refine hK.out _ _ ((G33.out.below b20 G33.out.lt).range 0 _ (by simp)) (fun hHeld => ?_)
          clear hK K
          refine wpAnyH_ready (rs := [7]) (by kernel_rfl) (by simp) (AllReadyH.cons rfl (fun K hK => ?_) AllReadyH.nil)
          rw [if_pos (by rfl)]
          go_simp
          refine (wordsR_any _ _ HOL.out HOW.out).mono ?_
          rintro e w21 ⟨v21, rfl, ho21, hn21, hx21⟩
          have b21 := b20.trans (hx21.mono b20.size)
          have ga21 := ga20.below hx21 ga20.lt
          refine hK.out _ _ ((G33.out.below b21 G33.out.lt).range 0 _ (by simp)) (fun hHeld => ?_)
          clear hK K
          refine wpAnyH_ready (rs := [8]) (by kernel_rfl) (by simp) (AllReadyH.cons rfl (fun K hK => ?_) AllReadyH.nil)
          rw [if_pos (by rfl)]
          obtain ⟨gc22, cc22, ec22, _, sc22⟩ := ho21.sl (wb_isB _) (by rw [HWL.out]; omega) hn21
          subst ec22
          rw [HWL.out] at sc22
          go_simp
          rw [HWL.out]
          refine (digR_any _ _ _ _ sc22).mono ?_
          rintro e w22 ⟨rfl, hx22⟩
          have b22 := b21.trans (hx22.mono b21.size)
          have ga22 := ga21.below hx22 ga21.lt
          refine hK.out _ _ ((G33.out.below b22 G33.out.lt).range 0 _ (by simp)) (fun hHeld => ?_)
          clear hK K
          refine takeH 9 17 (.tuple #[.agg (u8s (wb (ov h (xs ++ pad n) (bk (xs ++ pad n))))).toArray, .int .i64 32, .int .i64 0]) hHeld rfl rfl (by kernel_rfl) (by kernel_rfl) (by kernel_rfl) (fun _ _ _ h => h) (Or.inl ⟨by rfl, fun w _ => by go_simp⟩) ?_
          simp only [Act.put, List.setIfInBounds_toArray, List.set_cons_zero, List.set_cons_succ]
          refine takeH 10 27 (.agg (u8s (wb (ov h (xs ++ pad n) (bk (xs ++ pad n))))).toArray) hHeld rfl rfl (by kernel_rfl) (by kernel_rfl) (by kernel_rfl) (fun _ _ _ h => h) (Or.inl ⟨by rfl, fun w _ => by go_simp⟩) ?_
          simp only [Act.put, List.setIfInBounds_toArray, List.set_cons_zero, List.set_cons_succ]
          refine takeH 11 28 (.int .i64 32) hHeld rfl rfl (by kernel_rfl) (by kernel_rfl) (by kernel_rfl) (fun _ _ _ h => h) (Or.inl ⟨by rfl, fun w _ => by go_simp⟩) ?_
          simp only [Act.put, List.setIfInBounds_toArray, List.set_cons_zero, List.set_cons_succ]
          refine takeH 12 29 (.int .i64 0) hHeld rfl rfl (by kernel_rfl) (by kernel_rfl) (by kernel_rfl) (fun _ _ _ h => h) (Or.inl ⟨by rfl, fun w _ => by go_simp⟩) ?_
          simp only [Act.put, List.setIfInBounds_toArray, List.set_cons_zero, List.set_cons_succ]
          refine wpAnyH_ready (rs := [14]) (by kernel_rfl) (by simp) (AllReadyH.cons rfl (fun K hK => ?_) AllReadyH.nil)
          rw [if_pos (by rfl)]
          refine wp_storeW wD0 rfl (g := ga) (off := 0) (vs := u8s (wb (ov h (xs ++ pad n) (bk (xs ++ pad n))))) rfl rfl ga22 (by rw [u8s_length]; exact HWL.out) (One.u8 _) (Nat.le_refl _) ?_
          intro w23 hs23 hbut23
          have b23 := b22.trans (hbut23.below hGA)
          have e23 : spl (u8s (zer 32)) (u8s (wb (ov h (xs ++ pad n) (bk (xs ++ pad n))))) 0 = u8s (wb (ov h (xs ++ pad n) (bk (xs ++ pad n)))) := spl_all _ 32 HWL.out
          rw [e23] at hs23
          refine hK.out _ _ ((G33.out.below b23 G33.out.lt).range 0 _ (by simp)) (fun hHeld => ?_)
          clear hK K
          refine takeH 15 10 (.int .i64 32) hHeld rfl rfl (by kernel_rfl) (by kernel_rfl) (by kernel_rfl) (fun _ _ _ h => h) (Or.inl ⟨by rfl, fun w _ => by go_simp⟩) ?_
          simp only [Act.put, List.setIfInBounds_toArray]
          refine takeH 16 11 (.int .i64 0) hHeld rfl rfl (by kernel_rfl) (by kernel_rfl) (by kernel_rfl) (fun _ _ _ h => h) (Or.inl ⟨by rfl, fun w _ => by go_simp⟩) ?_
          simp only [Act.put]
          refine wpAnyH_done (by kernel_rfl) ?_ _
          refine NoPanic.normal ?_
          have HGA := hide hs23
          have HG6 := hide (G63.out.below b23 G63.out.lt)
          have HBF := hide (HB3.out.trans (b23.mono HB3.out.size))
          clear hHeld
          go_wp2_with (first | (refine step_loadA wD0 rfl rfl HGA.out (by rw [u8s_length]; exact HWL.out) ?_) | (refine step_storeA wD0 rfl rfl rfl HG6.out (by rw [u8s_length]; exact HWL.out) (One.u8 _) rfl ?_; intro wz hgz hbutz))
          refine bodyPost_ret (results_wide rfl wD0 _ _ rfl hgz (by rw [u8s_length]; exact HWL.out)) rfl ⟨rfl, ?_⟩
          exact HBF.out.trans (hbutz.below l6)
      · rw [if_pos (by rfl)]
        refine wp_allocG zD0 ?_
        intro w24 ga hga hla hba
        have b24 := b5.trans (hba.mono b5.size)
        have hGA : w3.heap.size ≤ ga := Nat.le_trans b5.size hla
        have o24 := ho5.below hba
        refine hK.out _ _ ((G33.out.below b24 G33.out.lt).range 0 _ (by simp)) (fun hHeld => ?_)
        clear hK K
        simp only [Act.put, List.setIfInBounds_toArray, List.set_cons_zero, List.set_cons_succ]
        refine wpAnyH_ready (rs := [5]) (by kernel_rfl) (by simp) (AllReadyH.cons rfl (fun K hK => ?_) AllReadyH.nil)
        rw [if_pos (by rfl)]
        refine wp_appendB rfl rfl rfl o24 (SP.out.below b24) (by simp [HX.out]; omega) b24.size ?_
        intro v25 w25 ho25 hx25 hm25
        have b25 := b24.grown hx25 b24.size o24.lt
        have hn25 : v25 ≠ .slice none 0 0 := fun e => hn5 (hm25 e).1
        have ga25 := hga.grown (by decide) o24 hx25
        refine hK.out _ _ ((G33.out.below b25 G33.out.lt).range 0 _ (by simp)) (fun hHeld => ?_)
        clear hK K
        simp only [Act.put]
        refine wpAnyH_ready (rs := [6]) (by kernel_rfl) (by simp) (AllReadyH.cons rfl (fun K hK => ?_) AllReadyH.nil)
        rw [if_pos (by rfl)]
        obtain ⟨gc26, cc26, ec26, _, sc26⟩ := ho25.sl (HXB.out.append HPB.out) (by simp [HX.out, HPL.out]; omega) hn25
        rw [HLL.out] at ec26 sc26
        subst ec26
        go_simp
        refine (overR_any h _ _ _ _ _ HH.out sc26).mono ?_
        rintro e w26 ⟨rfl, hx26⟩
        have b26 := b25.trans (hx26.mono b25.size)
        have ga26 := ga25.below hx26 ga25.lt
        refine hK.out _ _ ((G33.out.below b26 G33.out.lt).range 0 _ (by simp)) (fun hHeld => ?_)
        clear hK K
        refine wpAnyH_ready (rs := [7]) (by kernel_rfl) (by simp) (AllReadyH.cons rfl (fun K hK => ?_) AllReadyH.nil)
        rw [if_pos (by rfl)]
        go_simp
        refine (wordsR_any _ _ HOL.out HOW.out).mono ?_
        rintro e w27 ⟨v27, rfl, ho27, hn27, hx27⟩
        have b27 := b26.trans (hx27.mono b26.size)
        have ga27 := ga26.below hx27 ga26.lt
        refine hK.out _ _ ((G33.out.below b27 G33.out.lt).range 0 _ (by simp)) (fun hHeld => ?_)
        clear hK K
        refine wpAnyH_ready (rs := [8]) (by kernel_rfl) (by simp) (AllReadyH.cons rfl (fun K hK => ?_) AllReadyH.nil)
        rw [if_pos (by rfl)]
        obtain ⟨gc28, cc28, ec28, _, sc28⟩ := ho27.sl (wb_isB _) (by rw [HWL.out]; omega) hn27
        subst ec28
        rw [HWL.out] at sc28
        go_simp
        rw [HWL.out]
        refine (digR_any _ _ _ _ sc28).mono ?_
        rintro e w28 ⟨rfl, hx28⟩
        have b28 := b27.trans (hx28.mono b27.size)
        have ga28 := ga27.below hx28 ga27.lt
        refine hK.out _ _ ((G33.out.below b28 G33.out.lt).range 0 _ (by simp)) (fun hHeld => ?_)
        clear hK K
        refine takeH 9 17 (.tuple #[.agg (u8s (wb (ov h (xs ++ pad n) (bk (xs ++ pad n))))).toArray, .int .i64 32, .int .i64 0]) hHeld rfl rfl (by kernel_rfl) (by kernel_rfl) (by kernel_rfl) (fun _ _ _ h => h) (Or.inl ⟨by rfl, fun w _ => by go_simp⟩) ?_
        simp only [Act.put, List.setIfInBounds_toArray, List.set_cons_zero, List.set_cons_succ]
        refine takeH 10 27 (.agg (u8s (wb (ov h (xs ++ pad n) (bk (xs ++ pad n))))).toArray) hHeld rfl rfl (by kernel_rfl) (by kernel_rfl) (by kernel_rfl) (fun _ _ _ h => h) (Or.inl ⟨by rfl, fun w _ => by go_simp⟩) ?_
        simp only [Act.put, List.setIfInBounds_toArray, List.set_cons_zero, List.set_cons_succ]
        refine takeH 11 28 (.int .i64 32) hHeld rfl rfl (by kernel_rfl) (by kernel_rfl) (by kernel_rfl) (fun _ _ _ h => h) (Or.inl ⟨by rfl, fun w _ => by go_simp⟩) ?_
        simp only [Act.put, List.setIfInBounds_toArray, List.set_cons_zero, List.set_cons_succ]
        refine takeH 12 29 (.int .i64 0) hHeld rfl rfl (by kernel_rfl) (by kernel_rfl) (by kernel_rfl) (fun _ _ _ h => h) (Or.inl ⟨by rfl, fun w _ => by go_simp⟩) ?_
        simp only [Act.put, List.setIfInBounds_toArray, List.set_cons_zero, List.set_cons_succ]
        refine wpAnyH_ready (rs := [14]) (by kernel_rfl) (by simp) (AllReadyH.cons rfl (fun K hK => ?_) AllReadyH.nil)
        rw [if_pos (by rfl)]
        refine wp_storeW wD0 rfl (g := ga) (off := 0) (vs := u8s (wb (ov h (xs ++ pad n) (bk (xs ++ pad n))))) rfl rfl ga28 (by rw [u8s_length]; exact HWL.out) (One.u8 _) (Nat.le_refl _) ?_
        intro w29 hs29 hbut29
        have b29 := b28.trans (hbut29.below hGA)
        have e29 : spl (u8s (zer 32)) (u8s (wb (ov h (xs ++ pad n) (bk (xs ++ pad n))))) 0 = u8s (wb (ov h (xs ++ pad n) (bk (xs ++ pad n)))) := spl_all _ 32 HWL.out
        rw [e29] at hs29
        refine hK.out _ _ ((G33.out.below b29 G33.out.lt).range 0 _ (by simp)) (fun hHeld => ?_)
        clear hK K
        refine takeH 15 10 (.int .i64 32) hHeld rfl rfl (by kernel_rfl) (by kernel_rfl) (by kernel_rfl) (fun _ _ _ h => h) (Or.inl ⟨by rfl, fun w _ => by go_simp⟩) ?_
        simp only [Act.put, List.setIfInBounds_toArray]
        refine takeH 16 11 (.int .i64 0) hHeld rfl rfl (by kernel_rfl) (by kernel_rfl) (by kernel_rfl) (fun _ _ _ h => h) (Or.inl ⟨by rfl, fun w _ => by go_simp⟩) ?_
        simp only [Act.put]
        refine wpAnyH_done (by kernel_rfl) ?_ _
        refine NoPanic.normal ?_
        have HGA := hide hs29
        have HG6 := hide (G63.out.below b29 G63.out.lt)
        have HBF := hide (HB3.out.trans (b29.mono HB3.out.size))
        clear hHeld
        go_wp2_with (first | (refine step_loadA wD0 rfl rfl HGA.out (by rw [u8s_length]; exact HWL.out) ?_) | (refine step_storeA wD0 rfl rfl rfl HG6.out (by rw [u8s_length]; exact HWL.out) (One.u8 _) rfl ?_; intro wz hgz hbutz))
        refine bodyPost_ret (results_wide rfl wD0 _ _ rfl hgz (by rw [u8s_length]; exact HWL.out)) rfl ⟨rfl, ?_⟩
        exact HBF.out.trans (hbutz.below l6)
    · rw [if_pos (by rfl)]
      refine wp_allocG zD0 ?_
      intro w30 ga hga hla hba
      have b30 := b4.trans (hba.mono b4.size)
      have hGA : w3.heap.size ≤ ga := Nat.le_trans b4.size hla
      have o30 := o4.below hba
      refine hK.out _ _ ((G33.out.below b30 G33.out.lt).range 0 _ (by simp)) (fun hHeld => ?_)
      clear hK K
      simp only [Act.put, List.setIfInBounds_toArray, List.set_cons_zero, List.set_cons_succ]
      refine wpAnyH_ready (rs := [3]) (by kernel_rfl) (by simp) (AllReadyH.cons rfl (fun K hK => ?_) AllReadyH.nil)
      rw [if_pos (by rfl)]
      refine wp_appendB rfl rfl rfl o30 (S3.out.below b30) (by simp; omega) b30.size ?_
      intro v31 w31 ho31 hx31 hm31
      have b31 := b30.grown hx31 b30.size o30.lt
      have hn31 : v31 ≠ .slice none 0 0 := fun e => hn4 (hm31 e).1
      rw [List.nil_append] at ho31
      have ga31 := hga.grown (by decide) o30 hx31
      refine hK.out _ _ ((G33.out.below b31 G33.out.lt).range 0 _ (by simp)) (fun hHeld => ?_)
      clear hK K
      simp only [Act.put]
      refine wpAnyH_ready (rs := [5]) (by kernel_rfl) (by simp) (AllReadyH.cons rfl (fun K hK => ?_) AllReadyH.nil)
      rw [if_pos (by rfl)]
      refine wp_appendB rfl rfl rfl ho31 (SP.out.below b31) (by simp [HX.out]; omega) b31.size ?_
      intro v32 w32 ho32 hx32 hm32
      have b32 := b31.grown hx32 b31.size ho31.lt
      have hn32 : v32 ≠ .slice none 0 0 := fun e => hn31 (hm32 e).1
      have ga32 := ga31.grown (by decide) ho31 hx32
      refine hK.out _ _ ((G33.out.below b32 G33.out.lt).range 0 _ (by simp)) (fun hHeld => ?_)
      clear hK K
      simp only [Act.put]
      refine wpAnyH_ready (rs := [6]) (by kernel_rfl) (by simp) (AllReadyH.cons rfl (fun K hK => ?_) AllReadyH.nil)
      rw [if_pos (by rfl)]
      obtain ⟨gc33, cc33, ec33, _, sc33⟩ := ho32.sl (HXB.out.append HPB.out) (by simp [HX.out, HPL.out]; omega) hn32
      rw [HLL.out] at ec33 sc33
      subst ec33
      go_simp
      refine (overR_any h _ _ _ _ _ HH.out sc33).mono ?_
      rintro e w33 ⟨rfl, hx33⟩
      have b33 := b32.trans (hx33.mono b32.size)
      have ga33 := ga32.below hx33 ga32.lt
      refine hK.out _ _ ((G33.out.below b33 G33.out.lt).range 0 _ (by simp)) (fun hHeld => ?_)
      clear hK K
      refine wpAnyH_ready (rs := [7]) (by kernel_rfl) (by simp) (AllReadyH.cons rfl (fun K hK => ?_) AllReadyH.nil)
      rw [if_pos (by rfl)]
      go_simp
      refine (wordsR_any _ _ HOL.out HOW.out).mono ?_
      rintro e w34 ⟨v34, rfl, ho34, hn34, hx34⟩
      have b34 := b33.trans (hx34.mono b33.size)
      have ga34 := ga33.below hx34 ga33.lt
      refine hK.out _ _ ((G33.out.below b34 G33.out.lt).range 0 _ (by simp)) (fun hHeld => ?_)
      clear hK K
      refine wpAnyH_ready (rs := [8]) (by kernel_rfl) (by simp) (AllReadyH.cons rfl (fun K hK => ?_) AllReadyH.nil)
      rw [if_pos (by rfl)]
      obtain ⟨gc35, cc35, ec35, _, sc35⟩ := ho34.sl (wb_isB _) (by rw [HWL.out]; omega) hn34
      subst ec35
      rw [HWL.out] at sc35
      go_simp
      rw [HWL.out]
      refine (digR_any _ _ _ _ sc35).mono ?_
      rintro e w35 ⟨rfl, hx35⟩
      have b35 := b34.trans (hx35.mono b34.size)
      have ga35 := ga34.below hx35 ga34.lt
      refine hK.out _ _ ((G33.out.below b35 G33.out.lt).range 0 _ (by simp)) (fun hHeld => ?_)
      clear hK K
      refine takeH 9 17 (.tuple #[.agg (u8s (wb (ov h (xs ++ pad n) (bk (xs ++ pad n))))).toArray, .int .i64 32, .int .i64 0]) hHeld rfl rfl (by kernel_rfl) (by kernel_rfl) (by kernel_rfl) (fun _ _ _ h => h) (Or.inl ⟨by rfl, fun w _ => by go_simp⟩) ?_
      simp only [Act.put, List.setIfInBounds_toArray, List.set_cons_zero, List.set_cons_succ]
      refine takeH 10 27 (.agg (u8s (wb (ov h (xs ++ pad n) (bk (xs ++ pad n))))).toArray) hHeld rfl rfl (by kernel_rfl) (by kernel_rfl) (by kernel_rfl) (fun _ _ _ h => h) (Or.inl ⟨by rfl, fun w _ => by go_simp⟩) ?_
      simp only [Act.put, List.setIfInBounds_toArray, List.set_cons_zero, List.set_cons_succ]
      refine takeH 11 28 (.int .i64 32) hHeld rfl rfl (by kernel_rfl) (by kernel_rfl) (by kernel_rfl) (fun _ _ _ h => h) (Or.inl ⟨by rfl, fun w _ => by go_simp⟩) ?_
      simp only [Act.put, List.setIfInBounds_toArray, List.set_cons_zero, List.set_cons_succ]
      refine takeH 12 29 (.int .i64 0) hHeld rfl rfl (by kernel_rfl) (by kernel_rfl) (by kernel_rfl) (fun _ _ _ h => h) (Or.inl ⟨by rfl, fun w _ => by go_simp⟩) ?_
      simp only [Act.put, List.setIfInBounds_toArray, List.set_cons_zero, List.set_cons_succ]
      refine wpAnyH_ready (rs := [14]) (by kernel_rfl) (by simp) (AllReadyH.cons rfl (fun K hK => ?_) AllReadyH.nil)
      rw [if_pos (by rfl)]
      refine wp_storeW wD0 rfl (g := ga) (off := 0) (vs := u8s (wb (ov h (xs ++ pad n) (bk (xs ++ pad n))))) rfl rfl ga35 (by rw [u8s_length]; exact HWL.out) (One.u8 _) (Nat.le_refl _) ?_
      intro w36 hs36 hbut36
      have b36 := b35.trans (hbut36.below hGA)
      have e36 : spl (u8s (zer 32)) (u8s (wb (ov h (xs ++ pad n) (bk (xs ++ pad n))))) 0 = u8s (wb (ov h (xs ++ pad n) (bk (xs ++ pad n)))) := spl_all _ 32 HWL.out
      rw [e36] at hs36
      refine hK.out _ _ ((G33.out.below b36 G33.out.lt).range 0 _ (by simp)) (fun hHeld => ?_)
      clear hK K
      refine takeH 15 10 (.int .i64 32) hHeld rfl rfl (by kernel_rfl) (by kernel_rfl) (by kernel_rfl) (fun _ _ _ h => h) (Or.inl ⟨by rfl, fun w _ => by go_simp⟩) ?_
      simp only [Act.put, List.setIfInBounds_toArray]
      refine takeH 16 11 (.int .i64 0) hHeld rfl rfl (by kernel_rfl) (by kernel_rfl) (by kernel_rfl) (fun _ _ _ h => h) (Or.inl ⟨by rfl, fun w _ => by go_simp⟩) ?_
      simp only [Act.put]
      refine wpAnyH_done (by kernel_rfl) ?_ _
      refine NoPanic.normal ?_
      have HGA := hide hs36
      have HG6 := hide (G63.out.below b36 G63.out.lt)
      have HBF := hide (HB3.out.trans (b36.mono HB3.out.size))
      clear hHeld
      go_wp2_with (first | (refine step_loadA wD0 rfl rfl HGA.out (by rw [u8s_length]; exact HWL.out) ?_) | (refine step_storeA wD0 rfl rfl rfl HG6.out (by rw [u8s_length]; exact HWL.out) (One.u8 _) rfl ?_; intro wz hgz hbutz))
      refine bodyPost_ret (results_wide rfl wD0 _ _ rfl hgz (by rw [u8s_length]; exact HWL.out)) rfl ⟨rfl, ?_⟩
      exact HBF.out.trans (hbutz.below l6)
  · rw [if_pos (by rfl)]
    refine wp_allocG zD0 ?_
    intro w37 ga hga hla hba
    have b37 := b3.trans (hba.mono b3.size)
    have hGA : w3.heap.size ≤ ga := Nat.le_trans b3.size hla
    refine hK.out _ _ ((G33.out.below b37 G33.out.lt).range 0 _ (by simp)) (fun hHeld => ?_)
    clear hK K
    simp only [Act.put, List.setIfInBounds_toArray, List.set_cons_zero, List.set_cons_succ]
    refine wpAnyH_ready (rs := [1]) (by kernel_rfl) (by simp) (AllReadyH.cons rfl (fun K hK => ?_) AllReadyH.nil)
    rw [if_pos (by rfl)]
    refine wp_empty ?_
    intro w38 v38 ho38 hn38 hx38
    have b38 := b37.trans (hx38.mono b37.size)
    have o38 := ho38.mono b37.size
    have ga38 := hga.below hx38 hga.lt
    refine hK.out _ _ ((G33.out.below b38 G33.out.lt).range 0 _ (by simp)) (fun hHeld => ?_)
    clear hK K
    simp only [Act.put, List.setIfInBounds_toArray]
    refine wpAnyH_ready (rs := [3]) (by kernel_rfl) (by simp) (AllReadyH.cons rfl (fun K hK => ?_) AllReadyH.nil)
    rw [if_pos (by rfl)]
    refine wp_appendB rfl rfl rfl o38 (S3.out.below b38) (by simp; omega) b38.size ?_
    intro v39 w39 ho39 hx39 hm39
    have b39 := b38.grown hx39 b38.size o38.lt
    have hn39 : v39 ≠ .slice none 0 0 := fun e => hn38 (hm39 e).1
    rw [List.nil_append] at ho39
    have ga39 := ga38.grown (by decide) o38 hx39
    refine hK.out _ _ ((G33.out.below b39 G33.out.lt).range 0 _ (by simp)) (fun hHeld => ?_)
    clear hK K
    simp only [Act.put]
    refine wpAnyH_ready (rs := [5]) (by kernel_rfl) (by simp) (AllReadyH.cons rfl (fun K hK => ?_) AllReadyH.nil)
    rw [if_pos (by rfl)]
    refine wp_appendB rfl rfl rfl ho39 (SP.out.below b39) (by simp [HX.out]; omega) b39.size ?_
    intro v40 w40 ho40 hx40 hm40
    have b40 := b39.grown hx40 b39.size ho39.lt
    have hn40 : v40 ≠ .slice none 0 0 := fun e => hn39 (hm40 e).1
    have ga40 := ga39.grown (by decide) ho39 hx40
    refine hK.out _ _ ((G33.out.below b40 G33.out.lt).range 0 _ (by simp)) (fun hHeld => ?_)
    clear hK K
    simp only [Act.put]
    refine wpAnyH_ready (rs := [6]) (by kernel_rfl) (by simp) (AllReadyH.cons rfl (fun K hK => ?_) AllReadyH.nil)
    rw [if_pos (by rfl)]
    obtain ⟨gc41, cc41, ec41, _, sc41⟩ := ho40.sl (HXB.out.append HPB.out) (by simp [HX.out, HPL.out]; omega) hn40
    rw [HLL.out] at ec41 sc41
    subst ec41
    go_simp
    refine (overR_any h _ _ _ _ _ HH.out sc41).mono ?_
    rintro e w41 ⟨rfl, hx41⟩
    have b41 := b40.trans (hx41.mono b40.size)
    have ga41 := ga40.below hx41 ga40.lt
    refine hK.out _ _ ((G33.out.below b41 G33.out.lt).range 0 _ (by simp)) (fun hHeld => ?_)
    clear hK K
    refine wpAnyH_ready (rs := [7]) (by kernel_rfl) (by simp) (AllReadyH.cons rfl (fun K hK => ?_) AllReadyH.nil)
    rw [if_pos (by rfl)]
    go_simp
    refine (wordsR_any _ _ HOL.out HOW.out).mono ?_
    rintro e w42 ⟨v42, rfl, ho42, hn42, hx42⟩
    have b42 := b41.trans (hx42.mono b41.size)
    have ga42 := ga41.below hx42 ga41.lt
    refine hK.out _ _ ((G33.out.below b42 G33.out.lt).range 0 _ (by simp)) (fun hHeld => ?_)
    clear hK K
    refine wpAnyH_ready (rs := [8]) (by kernel_rfl) (by simp) (AllReadyH.cons rfl (fun K hK => ?_) AllReadyH.nil)
    rw [if_pos (by rfl)]
    obtain ⟨gc43, cc43, ec43, _, sc43⟩ := ho42.sl (wb_isB _) (by rw [HWL.out]; omega) hn42
    subst ec43
    rw [HWL.out] at sc43
    go_simp
    rw [HWL.out]
    refine (digR_any _ _ _ _ sc43).mono ?_
    rintro e w43 ⟨rfl, hx43⟩
    have b43 := b42.trans (hx43.mono b42.size)
    have ga43 := ga42.below hx43 ga42.lt
    refine hK.out _ _ ((G33.out.below b43 G33.out.lt).range 0 _ (by simp)) (fun hHeld => ?_)
    clear hK K
    refine takeH 9 17 (.tuple #[.agg (u8s (wb (ov h (xs ++ pad n) (bk (xs ++ pad n))))).toArray, .int .i64 32, .int .i64 0]) hHeld rfl rfl (by kernel_rfl) (by kernel_rfl) (by kernel_rfl) (fun _ _ _ h => h) (Or.inl ⟨by rfl, fun w _ => by go_simp⟩) ?_
    simp only [Act.put, List.setIfInBounds_toArray, List.set_cons_zero, List.set_cons_succ]
    refine takeH 10 27 (.agg (u8s (wb (ov h (xs ++ pad n) (bk (xs ++ pad n))))).toArray) hHeld rfl rfl (by kernel_rfl) (by kernel_rfl) (by kernel_rfl) (fun _ _ _ h => h) (Or.inl ⟨by rfl, fun w _ => by go_simp⟩) ?_
    simp only [Act.put, List.setIfInBounds_toArray, List.set_cons_zero, List.set_cons_succ]
    refine takeH 11 28 (.int .i64 32) hHeld rfl rfl (by kernel_rfl) (by kernel_rfl) (by kernel_rfl) (fun _ _ _ h => h) (Or.inl ⟨by rfl, fun w _ => by go_simp⟩) ?_
    simp only [Act.put, List.setIfInBounds_toArray, List.set_cons_zero, List.set_cons_succ]
    refine takeH 12 29 (.int .i64 0) hHeld rfl rfl (by kernel_rfl) (by kernel_rfl) (by kernel_rfl) (fun _ _ _ h => h) (Or.inl ⟨by rfl, fun w _ => by go_simp⟩) ?_
    simp only [Act.put, List.setIfInBounds_toArray, List.set_cons_zero, List.set_cons_succ]
    refine wpAnyH_ready (rs := [14]) (by kernel_rfl) (by simp) (AllReadyH.cons rfl (fun K hK => ?_) AllReadyH.nil)
    rw [if_pos (by rfl)]
    refine wp_storeW wD0 rfl (g := ga) (off := 0) (vs := u8s (wb (ov h (xs ++ pad n) (bk (xs ++ pad n))))) rfl rfl ga43 (by rw [u8s_length]; exact HWL.out) (One.u8 _) (Nat.le_refl _) ?_
    intro w44 hs44 hbut44
    have b44 := b43.trans (hbut44.below hGA)
    have e44 : spl (u8s (zer 32)) (u8s (wb (ov h (xs ++ pad n) (bk (xs ++ pad n))))) 0 = u8s (wb (ov h (xs ++ pad n) (bk (xs ++ pad n)))) := spl_all _ 32 HWL.out
    rw [e44] at hs44
    refine hK.out _ _ ((G33.out.below b44 G33.out.lt).range 0 _ (by simp)) (fun hHeld => ?_)
    clear hK K
    refine takeH 15 10 (.int .i64 32) hHeld rfl rfl (by kernel_rfl) (by kernel_rfl) (by kernel_rfl) (fun _ _ _ h => h) (Or.inl ⟨by rfl, fun w _ => by go_simp⟩) ?_
    simp only [Act.put, List.setIfInBounds_toArray]
    refine takeH 16 11 (.int .i64 0) hHeld rfl rfl (by kernel_rfl) (by kernel_rfl) (by kernel_rfl) (fun _ _ _ h => h) (Or.inl ⟨by rfl, fun w _ => by go_simp⟩) ?_
    simp only [Act.put]
    refine wpAnyH_done (by kernel_rfl) ?_ _
    refine NoPanic.normal ?_
    have HGA := hide hs44
    have HG6 := hide (G63.out.below b44 G63.out.lt)
    have HBF := hide (HB3.out.trans (b44.mono HB3.out.size))
    clear hHeld
    go_wp2_with (first | (refine step_loadA wD0 rfl rfl HGA.out (by rw [u8s_length]; exact HWL.out) ?_) | (refine step_storeA wD0 rfl rfl rfl HG6.out (by rw [u8s_length]; exact HWL.out) (One.u8 _) rfl ?_; intro wz hgz hbutz))
    refine bodyPost_ret (results_wide rfl wD0 _ _ rfl hgz (by rw [u8s_length]; exact HWL.out)) rfl ⟨rfl, ?_⟩
    exact HBF.out.trans (hbutz.below l6)

end Go.Proofs.YtnlpgkfmjlljdaaDoor
