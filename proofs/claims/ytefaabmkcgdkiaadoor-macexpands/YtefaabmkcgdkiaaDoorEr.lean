/-
  The document's Expand.
-/
import Derived.Test.YtefaabmkcgdkiaaDoorMr
import Derived.Test.YtefaabmkcgdkiaaDoorEx
namespace Go.Proofs.YtefaabmkcgdkiaaDoor
open Go.RowKit
set_option linter.unusedVariables false

theorem expandR_bad (ds : List Int) (a : Option Addr) (len cap : Nat) (n e : Int) (w : World) (he : (n < 0 ∧ e = 2) ∨ (8160 < n ∧ e = 3)) :
    Calls Tryd.prog 28 #[.agg (u8s ds).toArray, .slice a len cap, .int .i64 n] w fun r w' => r = .returned (.tuple #[.slice none 0 0, .int .i64 e]) ∧ Below w.heap.size w w' := by
  rcases he with ⟨h, rfl⟩ | ⟨h, rfl⟩
  · go_enter Tryd.func28, Tryd.ntmps28
    go_wp2_with (refine step_box rfl rfl ?_; intro w1 g3 hg1 hle1 hb1)
    go_ret2
    exact ⟨rfl, hb1⟩
  · have h0 : ¬ n < 0 := by omega
    go_enter Tryd.func28, Tryd.ntmps28
    go_wp2_with (refine step_box rfl rfl ?_; intro w1 g3 hg1 hle1 hb1)
    go_ret2
    exact ⟨rfl, hb1⟩

section
variable {dst : Option Tmp} {ty : TypeId} {pos : String} {aft : Array Edge} {gd : Option (Nat × Bool)} {a : Act} {w : World} {K : Act → World → Prop} {Q : Exit → Act → World → Prop}
theorem build_one (q : Int) (w : World) : (Instr.buildSlice 27 1 #[(0, .int .u8 q)]).run Tryd.prog w = .ok (.slice (some ⟨w.heap.size, 0, none⟩) 1 1) (w.alloc (.cells #[.int .u8 q] 5)) := by kernel_rfl
set_option maxRecDepth 100000 in
theorem wp_one {x : Operand} {q : Int} (hx : a.eval x = .int .u8 q) (hq : 0 ≤ q ∧ q ≤ 255) (h : ∀ w1 g, Sl w1 (some ⟨g, 0, none⟩) 1 1 [q] → w.heap.size ≤ g → Below w.heap.size w w1 → K (a.put dst (.slice (some ⟨g, 0, none⟩) 1 1)) w1) :
    Oper.wp Tryd.prog ⟨dst, .buildSlice 27 1 #[(0, x)], ty, pos, aft, gd⟩ a w K Q := by
  refine wp_runV (.slice (some ⟨w.heap.size, 0, none⟩) 1 1) (w.alloc (.cells #[.int .u8 q] 5)) ?_ (h _ _ (one_slB w q hq) (Nat.le_refl _) ((Below.refl _ _).alloc (Nat.le_refl _) _))
  unfold execOp
  simp only [List.map_toArray, List.map_cons, List.map_nil, hx]
  simp only [Sem.run_bind, build_one, Result.andThen_ok, Sem.run_pure]
end
theorem Own.take {w : World} {B : Nat} {v : Value} {xs : List Int} (h : Own w B v xs) (hb : isB xs) (hl : xs.length ≤ 140737488355328) (n : Nat) (hn : n ≤ xs.length) :
    ∃ a cap, v = .slice a xs.length cap ∧ (∀ u : World, (Instr.slice 27 v none (some (.int .i64 (n : Int))) none).run Tryd.prog u = .ok (.slice a n cap) u) ∧ Sl w a n cap (xs.take n) ∧ ∀ x, a = some x → B ≤ x.block := by
  by_cases hv : v = .slice none 0 0
  · subst hv
    have hx : xs.length = 0 := by
      rcases h.2 with ⟨_, e⟩ | ⟨_, _, _, e, _⟩
      · exact e
      · cases e
    obtain rfl : xs = [] := List.eq_nil_of_length_eq_zero hx
    have h0 : n = 0 := by simpa using hn
    subst h0
    exact ⟨none, 0, rfl, fun u => by kernel_rfl, ⟨rfl, Nat.le_refl _, by omega, by omega, (fun x hx => by simp at hx), fun _ => ⟨rfl, rfl⟩, fun h => absurd h (by omega)⟩, fun x hx => by cases hx⟩
  · obtain ⟨g, cap, rfl, hB, hs⟩ := h.sl hb hl hv
    have hc := hs.hcap
    exact ⟨some ⟨g, 0, none⟩, cap, rfl, fun u => sl_to g xs.length cap n (n : Int) rfl (by omega) u, hs.take n hn, fun x hx => by cases hx; exact hB⟩

set_option maxRecDepth 100000 in
set_option maxHeartbeats 8000000 in
theorem expandR_any (ds : List Int) (a : Option Addr) (len cap : Nat) (xs : List Int) (n : Nat) (w : World) (hd : ds.length = 32) (hdb : isB ds) (hs : Sl w a len cap xs) (hc : len ≤ 140737488351232) (hn : n ≤ 8160) :
    Calls Tryd.prog 28 #[.agg (u8s ds).toArray, .slice a len cap, .int .i64 n] w fun r w' => ∃ a' cap', r = .returned (.tuple #[.slice a' n cap', .int .i64 0]) ∧ Sl w' a' n cap' ((exl ds xs ((n + 31) / 32)).take n) ∧ (∀ x, a' = some x → w.heap.size ≤ x.block) ∧ Below w.heap.size w w' := by
  have HS := hide hs
  have HD := hide hd
  have HDB := hide hdb
  have HX := hide hs.hlen
  have HXB := hide hs.hbyte
  have h0 : ¬ ((n : Int) < 0) := by omega
  have h1 : ¬ ((8160 : Int) < (n : Int)) := by omega
  clear hs hd hdb
  go_enter Tryd.func28, Tryd.ntmps28
  go_wp2_with (refine step_box rfl rfl ?_)
  intro w1 g3 hg1 hle1 hb1
  have G3 := hide hg1
  have HB1 := hide hb1
  have SX1 := hide (HS.out.below hb1)
  clear hg1 hb1
  go_wp2
  go_loopw [8, 9, 10] (fun o l i wr => ∃ k : Nat, k ≤ (n + 31) / 32 ∧ i = .int .i64 (k + 1) ∧ Own2 wr w1.heap.size o l (exl ds xs k) (tk ds xs k) ∧ Below w1.heap.size w1 wr) (fun o _ _ _ => 8192 - lenOf o)
  case atStart => exact ⟨0, by omega, rfl, ⟨Own.nil _ _, Own.nil _ _, .inl rfl⟩, Below.refl _ _⟩
  case round =>
    obtain ⟨k, hk, rfl, ho, hb⟩ := hrel
    have B := hide hb
    have HEL := hide (exl_length ds xs k)
    have HTB := hide (tk_isB ds xs k)
    have HTE := hide (tk_le ds xs k)
    obtain ⟨ao, co, rfl, hso⟩ := ho.a.sl' (exl_isB ds xs k) (by rw [HEL.out]; omega)
    obtain ⟨al, cl, rfl, hsl⟩ := ho.b.sl' HTB.out (by have := HTE.out; omega)
    have O0 := hide ho
    rw [HEL.out] at O0 ⊢
    have O := O0
    have SLr := hide hsl
    clear ho hb hso hsl O0
    by_cases hlt : 32 * k < n
    · have hlt' : 32 * (k : Int) < (n : Int) := by omega
      have HTD := hide (show (u8s (tk ds xs (k + 1))).length = 32 by rw [u8s_length, tk_length])
      have HTL := hide (tk_length ds xs k)
      have HTB1 := hide (tk_isB ds xs (k + 1))
      have EN : Hid (mc ds (tk ds xs k ++ xs ++ [(k : Int) + 1]) = tk ds xs (k + 1)) := hide (by
        show _ = mc ds (tk ds xs k ++ (xs ++ [((k + 1 : Nat) : Int)]))
        rw [Int.natCast_add, List.append_assoc]; rfl)
      have HLM := hide (show (tk ds xs k ++ xs).length = (tk ds xs k).length + len by rw [List.length_append, HX.out])
      have HQ : Hid (0 ≤ (k : Int) + 1 ∧ (k : Int) + 1 ≤ 255) := hide (by omega)
      have hq8 : ((k : Int) + 1) % 256 = (k : Int) + 1 := by omega
      have XR := hide (SX1.out.below B.out)
      have SD := hide ((G3.out.below B.out G3.out.lt).sl0 HDB.out (by rw [HD.out]; omega))
      rw [HD.out] at SD
      have hte := HTE.out
      have ho0 : Own (wr.alloc (.cells #[] 5)) wr.heap.size (.slice (some ⟨wr.heap.size, 0, none⟩) 0 0) [] := Own.of_blk (xs := []) (Blk.made wr 5 []) (Nat.le_refl _) (by simp)
      have hb0 : Below wr.heap.size wr (wr.alloc (.cells #[] 5)) := (Below.refl _ _).alloc (Nat.le_refl _) _
      go_wp2_with (refine step_append rfl rfl rfl ho0 (SLr.out.below hb0) (by simp; omega) (by simp) ?_)
      intro va wa hoa hga hna
      rw [List.nil_append] at hoa
      have Ba := hide (hb0.trans (Below.of_grown hga hb0.size ho0.lt))
      have hva : va ≠ .slice none 0 0 := fun e => by have e2 := (hna e).1; cases e2
      have Oa := hide hoa
      clear ho0 hb0 hoa hga hna
      go_wp2_with (refine step_append rfl rfl rfl Oa.out (XR.out.below Ba.out) (by omega) Ba.out.size ?_)
      intro vm wm hom hgm hnm
      have Bm := hide (Ba.out.trans (Below.of_grown hgm Ba.out.size Oa.out.lt))
      have HMN := hide (show vm ≠ .slice none 0 0 from fun e => hva (hnm e).1)
      have OMr := hide hom
      clear hom hgm hnm hva Oa Ba
      go_wp2_with fail
      refine wp_region_noPanic ?_
      have B0 := hide (Bm.out.drew)
      have OM0 := hide (OMr.out.below ((Below.refl _ _).drew))
      refine wp_region_held_drew (S := fun v : World => True) (by kernel_rfl) trivial (fun hHeld => ?_)
      refine takeH 0 28 (.slice (some ⟨g3, 0, none⟩) 32 32) hHeld rfl rfl (by kernel_rfl) (by kernel_rfl) (by kernel_rfl) (fun _ _ _ h => h) (Or.inl ⟨by rfl, fun w _ => run_op rfl (slice_Dg g3 w)⟩) ?_
      simp only [Act.put, List.setIfInBounds_toArray, List.set_cons_zero, List.set_cons_succ]
      refine takeH 1 29 (vm) hHeld rfl rfl (by kernel_rfl) (by kernel_rfl) (by kernel_rfl) (fun _ _ _ h => h) (Or.inl ⟨by rfl, fun w _ => by go_simp⟩) ?_
      simp only [Act.put, List.setIfInBounds_toArray, List.set_cons_zero, List.set_cons_succ]
      refine takeH 2 30 (.int .i64 ((k : Int) + 1)) hHeld rfl rfl (by kernel_rfl) (by kernel_rfl) (by kernel_rfl) (fun _ _ _ h => h) (Or.inl ⟨by rfl, fun w _ => by go_simp⟩) ?_
      simp only [Act.put, List.setIfInBounds_toArray, List.set_cons_zero, List.set_cons_succ]
      refine takeH 3 31 (.int .u8 ((k : Int) + 1)) hHeld rfl rfl (by kernel_rfl) (by kernel_rfl) (by kernel_rfl) (fun _ _ _ h => h) (Or.inl ⟨by rfl, fun w _ => by go_simp; first | exact hq8 | omega | (rw [IntKind.wrap_u8']; omega)⟩) ?_
      simp only [Act.put, List.setIfInBounds_toArray, List.set_cons_zero, List.set_cons_succ]
      refine wpAnyH_ready (rs := [4, 7]) (by kernel_rfl) (by simp) (AllReadyH.cons rfl (fun K hK => ?_) (AllReadyH.cons rfl (fun K hK => ?_) AllReadyH.nil))
      · rw [if_pos (by rfl)]
        refine wp_one rfl HQ.out ?_
        intro va1 gq hsq hlq hbq
        have SQ := hide hsq
        have B1 := hide (B0.out.trans (hbq.mono B0.out.size))
        have OM1 := hide (OM0.out.below hbq)
        refine hK.out _ _ trivial (fun hHeld => ?_)
        clear hK K
        simp only [Act.put]
        refine wpAnyH_ready (rs := [5, 7]) (by kernel_rfl) (by simp) (AllReadyH.cons rfl (fun K hK => ?_) (AllReadyH.cons rfl (fun K hK => ?_) AllReadyH.nil))
        · rw [if_pos (by rfl)]
          refine wp_appendB rfl rfl rfl OM1.out SQ.out (by rw [HLM.out]; omega) B1.out.size ?_
          intro v33 va2 ho33 hg33 hn33
          have B2 := hide (B1.out.trans (Below.of_grown hg33 B1.out.size OM1.out.lt))
          have hn33' : v33 ≠ .slice none 0 0 := fun e => HMN.out (hn33 e).1
          have HME := hide (show (tk ds xs k ++ xs ++ [(k : Int) + 1]).length = (tk ds xs k).length + len + 1 by rw [List.length_append, HLM.out]; rfl)
          obtain ⟨g33, c33, e33, _, hs33⟩ := ho33.sl ((HTB.out.append HXB.out).append (by intro y hy; simp at hy; omega)) (by rw [HME.out]; omega) hn33'
          subst e33
          rw [HME.out] at hs33 ⊢
          have SC := hide hs33
          refine hK.out _ _ trivial (fun hHeld => ?_)
          clear hK K
          simp only [Act.put]
          refine wpAnyH_ready (rs := [6, 7]) (by kernel_rfl) (by simp) (AllReadyH.cons rfl (fun K hK => ?_) (AllReadyH.cons rfl (fun K hK => ?_) AllReadyH.nil))
          · rw [if_pos (by rfl)]
            go_simp
            refine (macR_any _ _ _ ds _ _ _ (tk ds xs k ++ xs ++ [(k : Int) + 1]) _ (SD.out.below B2.out) (by omega) SC.out (by omega)).mono ?_
            rintro e va3 ⟨rfl, hvc⟩
            rw [EN.out]
            have B3 := hide (B2.out.trans (hvc.mono B2.out.size))
            refine hK.out _ _ trivial (fun hHeld => ?_)
            clear hK K
            refine wpAnyH_ready (rs := [7]) (by kernel_rfl) (by simp) (AllReadyH.cons rfl (fun K hK => ?_) AllReadyH.nil)
            rw [if_pos (by rfl)]
            refine wp_allocG zD ?_
            intro va4 g12 hg12 hl12 hb12
            have hl12' : wr.heap.size ≤ g12 := Nat.le_trans B3.out.size hl12
            have B4 := hide (B3.out.trans (hb12.mono B3.out.size))
            have G12 := hide hg12
            refine hK.out _ _ trivial (fun hHeld => ?_)
            clear hK K
            simp only [Act.put]
            refine wpAnyH_ready (rs := [8]) (by kernel_rfl) (by simp) (AllReadyH.cons rfl (fun K hK => ?_) AllReadyH.nil)
            rw [if_pos (by rfl)]
            refine wp_storeW wD rfl rfl rfl G12.out HTD.out (One.u8 _) (by simp [u8s_length, zer_length]) ?_
            intro vs hgs hbuts
            refine hK.out _ _ trivial (fun hHeld => ?_)
            clear hK K
            simp only [Act.put]
            refine wpAnyH_done (by kernel_rfl) ?_ _
            refine NoPanic.normal ?_
            clear hHeld
            have EZ : Hid (spl (u8s (zer 32)) (u8s (tk ds xs (k + 1))) 0 = u8s (tk ds xs (k + 1))) := hide (by
              unfold spl
              rw [List.drop_of_length_le (by rw [u8s_length, zer_length, HTD.out]; omega)]
              simp)
            rw [EZ.out] at hgs
            have Bs := hide (B4.out.trans (hbuts.below hl12'))
            have SDs := hide (hgs.sl0 HTB1.out (by rw [HTL.out]; omega))
            rw [HTL.out] at SDs
            have hslz := slice_Dg g12
            have Oz := hide (O.out.below Bs.out)
            clear hgs hbuts
            have ho0 : Own (vs.alloc (.cells #[] 5)) vs.heap.size (.slice (some ⟨vs.heap.size, 0, none⟩) 0 0) [] := Own.of_blk (xs := []) (Blk.made vs 5 []) (Nat.le_refl _) (by simp)
            have hb0 : Below vs.heap.size vs (vs.alloc (.cells #[] 5)) := (Below.refl _ _).alloc (Nat.le_refl _) _
            go_wp2_with (refine step_append rfl rfl rfl ho0 (SDs.out.below hb0) (by simp) (by simp) ?_)
            intro v9 we ho9 hg9 hn9
            rw [List.nil_append] at ho9
            have B9 := hide (hb0.trans (Below.of_grown hg9 hb0.size ho0.lt))
            have hv9 : v9 ≠ .slice none 0 0 := fun e => by have e2 := (hn9 e).1; cases e2
            have O9 := hide ho9
            obtain ⟨g9, c9, e9, hl9, hs9⟩ := ho9.sl HTB1.out (by rw [HTL.out]; omega) hv9
            subst e9
            rw [HTL.out] at hs9 O9 ⊢
            have S9 := hide hs9
            have Oe := hide (Oz.out.below B9.out)
            have Be := hide (Bs.out.trans (B9.out.mono Bs.out.size))
            have hOb : ∀ q, Value.ownBlock (.slice ao (32 * k) co) = some q → q < vs.heap.size := fun q hq => (World.ownsRow.lt Oz.out.a q hq).2
            have O2 : Hid (Own2 we w1.heap.size (.slice ao (32 * k) co) (.slice (some ⟨g9, 0, none⟩) 32 c9) (exl ds xs k) (tk ds xs (k + 1))) := hide ⟨Oe.out.a, O9.out.mono (Nat.le_trans B.out.size Bs.out.size), by
              right
              intro h
              have := hOb g9 h
              omega⟩
            clear ho0 hb0 ho9 hg9 hn9 hv9 hs9
            go_wp2_with (refine step_appendL rfl rfl rfl O2.out.a S9.out (by omega) (by rw [HEL.out]; omega) (Nat.le_trans B.out.size Be.out.size) ?_)
            intro gx cx wx hox hgx hlx
            have O3 := hide (O2.out.grow hox hgx (hlx.imp id fun e => by omega))
            have BX := hide ((B.out.trans (Be.out.mono B.out.size)).trans (Below.of_grown hgx (Nat.le_trans B.out.size Be.out.size) O2.out.a.lt))
            have GX := hide (G3.out.below BX.out G3.out.lt)
            clear hox hgx hlx
            go_wp2
            go_roundw
            case rel => exact ⟨k + 1, by omega, by go_num, O3.out, BX.out⟩
            case measure => simp [lenOf]; rw [HEL.out]; omega
          · rw [if_pos (by rfl)]
            refine wp_allocG zD ?_
            intro va3 g12 hg12 hl12 hb12
            have hl12' : wr.heap.size ≤ g12 := Nat.le_trans B2.out.size hl12
            have B3 := hide (B2.out.trans (hb12.mono B2.out.size))
            have G12a := hide hg12
            have SC := hide (SC.out.below hb12)
            refine hK.out _ _ trivial (fun hHeld => ?_)
            clear hK K
            simp only [Act.put]
            refine wpAnyH_ready (rs := [6]) (by kernel_rfl) (by simp) (AllReadyH.cons rfl (fun K hK => ?_) AllReadyH.nil)
            rw [if_pos (by rfl)]
            go_simp
            refine (macR_any _ _ _ ds _ _ _ (tk ds xs k ++ xs ++ [(k : Int) + 1]) _ (SD.out.below B3.out) (by omega) SC.out (by omega)).mono ?_
            rintro e va4 ⟨rfl, hvc⟩
            rw [EN.out]
            have B4 := hide (B3.out.trans (hvc.mono B3.out.size))
            have G12 := hide (G12a.out.below hvc G12a.out.lt)
            refine hK.out _ _ trivial (fun hHeld => ?_)
            clear hK K
            refine wpAnyH_ready (rs := [8]) (by kernel_rfl) (by simp) (AllReadyH.cons rfl (fun K hK => ?_) AllReadyH.nil)
            rw [if_pos (by rfl)]
            refine wp_storeW wD rfl rfl rfl G12.out HTD.out (One.u8 _) (by simp [u8s_length, zer_length]) ?_
            intro vs hgs hbuts
            refine hK.out _ _ trivial (fun hHeld => ?_)
            clear hK K
            simp only [Act.put]
            refine wpAnyH_done (by kernel_rfl) ?_ _
            refine NoPanic.normal ?_
            clear hHeld
            have EZ : Hid (spl (u8s (zer 32)) (u8s (tk ds xs (k + 1))) 0 = u8s (tk ds xs (k + 1))) := hide (by
              unfold spl
              rw [List.drop_of_length_le (by rw [u8s_length, zer_length, HTD.out]; omega)]
              simp)
            rw [EZ.out] at hgs
            have Bs := hide (B4.out.trans (hbuts.below hl12'))
            have SDs := hide (hgs.sl0 HTB1.out (by rw [HTL.out]; omega))
            rw [HTL.out] at SDs
            have hslz := slice_Dg g12
            have Oz := hide (O.out.below Bs.out)
            clear hgs hbuts
            have ho0 : Own (vs.alloc (.cells #[] 5)) vs.heap.size (.slice (some ⟨vs.heap.size, 0, none⟩) 0 0) [] := Own.of_blk (xs := []) (Blk.made vs 5 []) (Nat.le_refl _) (by simp)
            have hb0 : Below vs.heap.size vs (vs.alloc (.cells #[] 5)) := (Below.refl _ _).alloc (Nat.le_refl _) _
            go_wp2_with (refine step_append rfl rfl rfl ho0 (SDs.out.below hb0) (by simp) (by simp) ?_)
            intro v9 we ho9 hg9 hn9
            rw [List.nil_append] at ho9
            have B9 := hide (hb0.trans (Below.of_grown hg9 hb0.size ho0.lt))
            have hv9 : v9 ≠ .slice none 0 0 := fun e => by have e2 := (hn9 e).1; cases e2
            have O9 := hide ho9
            obtain ⟨g9, c9, e9, hl9, hs9⟩ := ho9.sl HTB1.out (by rw [HTL.out]; omega) hv9
            subst e9
            rw [HTL.out] at hs9 O9 ⊢
            have S9 := hide hs9
            have Oe := hide (Oz.out.below B9.out)
            have Be := hide (Bs.out.trans (B9.out.mono Bs.out.size))
            have hOb : ∀ q, Value.ownBlock (.slice ao (32 * k) co) = some q → q < vs.heap.size := fun q hq => (World.ownsRow.lt Oz.out.a q hq).2
            have O2 : Hid (Own2 we w1.heap.size (.slice ao (32 * k) co) (.slice (some ⟨g9, 0, none⟩) 32 c9) (exl ds xs k) (tk ds xs (k + 1))) := hide ⟨Oe.out.a, O9.out.mono (Nat.le_trans B.out.size Bs.out.size), by
              right
              intro h
              have := hOb g9 h
              omega⟩
            clear ho0 hb0 ho9 hg9 hn9 hv9 hs9
            go_wp2_with (refine step_appendL rfl rfl rfl O2.out.a S9.out (by omega) (by rw [HEL.out]; omega) (Nat.le_trans B.out.size Be.out.size) ?_)
            intro gx cx wx hox hgx hlx
            have O3 := hide (O2.out.grow hox hgx (hlx.imp id fun e => by omega))
            have BX := hide ((B.out.trans (Be.out.mono B.out.size)).trans (Below.of_grown hgx (Nat.le_trans B.out.size Be.out.size) O2.out.a.lt))
            have GX := hide (G3.out.below BX.out G3.out.lt)
            clear hox hgx hlx
            go_wp2
            go_roundw
            case rel => exact ⟨k + 1, by omega, by go_num, O3.out, BX.out⟩
            case measure => simp [lenOf]; rw [HEL.out]; omega
        · rw [if_pos (by rfl)]
          refine wp_allocG zD ?_
          intro va2 g12 hg12 hl12 hb12
          have hl12' : wr.heap.size ≤ g12 := Nat.le_trans B1.out.size hl12
          have B2 := hide (B1.out.trans (hb12.mono B1.out.size))
          have G12a := hide hg12
          have OM1 := hide (OM1.out.below hb12)
          have SQ := hide (SQ.out.below hb12)
          refine hK.out _ _ trivial (fun hHeld => ?_)
          clear hK K
          simp only [Act.put]
          refine wpAnyH_ready (rs := [5]) (by kernel_rfl) (by simp) (AllReadyH.cons rfl (fun K hK => ?_) AllReadyH.nil)
          rw [if_pos (by rfl)]
          refine wp_appendB rfl rfl rfl OM1.out SQ.out (by rw [HLM.out]; omega) B2.out.size ?_
          intro v33 va3 ho33 hg33 hn33
          have B3 := hide (B2.out.trans (Below.of_grown hg33 B2.out.size OM1.out.lt))
          have hn33' : v33 ≠ .slice none 0 0 := fun e => HMN.out (hn33 e).1
          have HME := hide (show (tk ds xs k ++ xs ++ [(k : Int) + 1]).length = (tk ds xs k).length + len + 1 by rw [List.length_append, HLM.out]; rfl)
          obtain ⟨g33, c33, e33, _, hs33⟩ := ho33.sl ((HTB.out.append HXB.out).append (by intro y hy; simp at hy; omega)) (by rw [HME.out]; omega) hn33'
          subst e33
          rw [HME.out] at hs33 ⊢
          have SC := hide hs33
          have G12b := hide (G12a.out.grown (by decide) OM1.out hg33)
          refine hK.out _ _ trivial (fun hHeld => ?_)
          clear hK K
          simp only [Act.put]
          refine wpAnyH_ready (rs := [6]) (by kernel_rfl) (by simp) (AllReadyH.cons rfl (fun K hK => ?_) AllReadyH.nil)
          rw [if_pos (by rfl)]
          go_simp
          refine (macR_any _ _ _ ds _ _ _ (tk ds xs k ++ xs ++ [(k : Int) + 1]) _ (SD.out.below B3.out) (by omega) SC.out (by omega)).mono ?_
          rintro e va4 ⟨rfl, hvc⟩
          rw [EN.out]
          have B4 := hide (B3.out.trans (hvc.mono B3.out.size))
          have G12 := hide (G12b.out.below hvc G12b.out.lt)
          refine hK.out _ _ trivial (fun hHeld => ?_)
          clear hK K
          refine wpAnyH_ready (rs := [8]) (by kernel_rfl) (by simp) (AllReadyH.cons rfl (fun K hK => ?_) AllReadyH.nil)
          rw [if_pos (by rfl)]
          refine wp_storeW wD rfl rfl rfl G12.out HTD.out (One.u8 _) (by simp [u8s_length, zer_length]) ?_
          intro vs hgs hbuts
          refine hK.out _ _ trivial (fun hHeld => ?_)
          clear hK K
          simp only [Act.put]
          refine wpAnyH_done (by kernel_rfl) ?_ _
          refine NoPanic.normal ?_
          clear hHeld
          have EZ : Hid (spl (u8s (zer 32)) (u8s (tk ds xs (k + 1))) 0 = u8s (tk ds xs (k + 1))) := hide (by
            unfold spl
            rw [List.drop_of_length_le (by rw [u8s_length, zer_length, HTD.out]; omega)]
            simp)
          rw [EZ.out] at hgs
          have Bs := hide (B4.out.trans (hbuts.below hl12'))
          have SDs := hide (hgs.sl0 HTB1.out (by rw [HTL.out]; omega))
          rw [HTL.out] at SDs
          have hslz := slice_Dg g12
          have Oz := hide (O.out.below Bs.out)
          clear hgs hbuts
          have ho0 : Own (vs.alloc (.cells #[] 5)) vs.heap.size (.slice (some ⟨vs.heap.size, 0, none⟩) 0 0) [] := Own.of_blk (xs := []) (Blk.made vs 5 []) (Nat.le_refl _) (by simp)
          have hb0 : Below vs.heap.size vs (vs.alloc (.cells #[] 5)) := (Below.refl _ _).alloc (Nat.le_refl _) _
          go_wp2_with (refine step_append rfl rfl rfl ho0 (SDs.out.below hb0) (by simp) (by simp) ?_)
          intro v9 we ho9 hg9 hn9
          rw [List.nil_append] at ho9
          have B9 := hide (hb0.trans (Below.of_grown hg9 hb0.size ho0.lt))
          have hv9 : v9 ≠ .slice none 0 0 := fun e => by have e2 := (hn9 e).1; cases e2
          have O9 := hide ho9
          obtain ⟨g9, c9, e9, hl9, hs9⟩ := ho9.sl HTB1.out (by rw [HTL.out]; omega) hv9
          subst e9
          rw [HTL.out] at hs9 O9 ⊢
          have S9 := hide hs9
          have Oe := hide (Oz.out.below B9.out)
          have Be := hide (Bs.out.trans (B9.out.mono Bs.out.size))
          have hOb : ∀ q, Value.ownBlock (.slice ao (32 * k) co) = some q → q < vs.heap.size := fun q hq => (World.ownsRow.lt Oz.out.a q hq).2
          have O2 : Hid (Own2 we w1.heap.size (.slice ao (32 * k) co) (.slice (some ⟨g9, 0, none⟩) 32 c9) (exl ds xs k) (tk ds xs (k + 1))) := hide ⟨Oe.out.a, O9.out.mono (Nat.le_trans B.out.size Bs.out.size), by
            right
            intro h
            have := hOb g9 h
            omega⟩
          clear ho0 hb0 ho9 hg9 hn9 hv9 hs9
          go_wp2_with (refine step_appendL rfl rfl rfl O2.out.a S9.out (by omega) (by rw [HEL.out]; omega) (Nat.le_trans B.out.size Be.out.size) ?_)
          intro gx cx wx hox hgx hlx
          have O3 := hide (O2.out.grow hox hgx (hlx.imp id fun e => by omega))
          have BX := hide ((B.out.trans (Be.out.mono B.out.size)).trans (Below.of_grown hgx (Nat.le_trans B.out.size Be.out.size) O2.out.a.lt))
          have GX := hide (G3.out.below BX.out G3.out.lt)
          clear hox hgx hlx
          go_wp2
          go_roundw
          case rel => exact ⟨k + 1, by omega, by go_num, O3.out, BX.out⟩
          case measure => simp [lenOf]; rw [HEL.out]; omega
      · rw [if_pos (by rfl)]
        refine wp_allocG zD ?_
        intro va1 g12 hg12 hl12 hb12
        have hl12' : wr.heap.size ≤ g12 := Nat.le_trans B0.out.size hl12
        have B1 := hide (B0.out.trans (hb12.mono B0.out.size))
        have G12a := hide hg12
        have OM0 := hide (OM0.out.below hb12)
        refine hK.out _ _ trivial (fun hHeld => ?_)
        clear hK K
        simp only [Act.put]
        refine wpAnyH_ready (rs := [4]) (by kernel_rfl) (by simp) (AllReadyH.cons rfl (fun K hK => ?_) AllReadyH.nil)
        rw [if_pos (by rfl)]
        refine wp_one rfl HQ.out ?_
        intro va2 gq hsq hlq hbq
        have SQ := hide hsq
        have B2 := hide (B1.out.trans (hbq.mono B1.out.size))
        have OM1 := hide (OM0.out.below hbq)
        have G12b := hide (G12a.out.below hbq G12a.out.lt)
        refine hK.out _ _ trivial (fun hHeld => ?_)
        clear hK K
        simp only [Act.put]
        refine wpAnyH_ready (rs := [5]) (by kernel_rfl) (by simp) (AllReadyH.cons rfl (fun K hK => ?_) AllReadyH.nil)
        rw [if_pos (by rfl)]
        refine wp_appendB rfl rfl rfl OM1.out SQ.out (by rw [HLM.out]; omega) B2.out.size ?_
        intro v33 va3 ho33 hg33 hn33
        have B3 := hide (B2.out.trans (Below.of_grown hg33 B2.out.size OM1.out.lt))
        have hn33' : v33 ≠ .slice none 0 0 := fun e => HMN.out (hn33 e).1
        have HME := hide (show (tk ds xs k ++ xs ++ [(k : Int) + 1]).length = (tk ds xs k).length + len + 1 by rw [List.length_append, HLM.out]; rfl)
        obtain ⟨g33, c33, e33, _, hs33⟩ := ho33.sl ((HTB.out.append HXB.out).append (by intro y hy; simp at hy; omega)) (by rw [HME.out]; omega) hn33'
        subst e33
        rw [HME.out] at hs33 ⊢
        have SC := hide hs33
        have G12c := hide (G12b.out.grown (by decide) OM1.out hg33)
        refine hK.out _ _ trivial (fun hHeld => ?_)
        clear hK K
        simp only [Act.put]
        refine wpAnyH_ready (rs := [6]) (by kernel_rfl) (by simp) (AllReadyH.cons rfl (fun K hK => ?_) AllReadyH.nil)
        rw [if_pos (by rfl)]
        go_simp
        refine (macR_any _ _ _ ds _ _ _ (tk ds xs k ++ xs ++ [(k : Int) + 1]) _ (SD.out.below B3.out) (by omega) SC.out (by omega)).mono ?_
        rintro e va4 ⟨rfl, hvc⟩
        rw [EN.out]
        have B4 := hide (B3.out.trans (hvc.mono B3.out.size))
        have G12 := hide (G12c.out.below hvc G12c.out.lt)
        refine hK.out _ _ trivial (fun hHeld => ?_)
        clear hK K
        refine wpAnyH_ready (rs := [8]) (by kernel_rfl) (by simp) (AllReadyH.cons rfl (fun K hK => ?_) AllReadyH.nil)
        rw [if_pos (by rfl)]
        refine wp_storeW wD rfl rfl rfl G12.out HTD.out (One.u8 _) (by simp [u8s_length, zer_length]) ?_
        intro vs hgs hbuts
        refine hK.out _ _ trivial (fun hHeld => ?_)
        clear hK K
        simp only [Act.put]
        refine wpAnyH_done (by kernel_rfl) ?_ _
        refine NoPanic.normal ?_
        clear hHeld
        have EZ : Hid (spl (u8s (zer 32)) (u8s (tk ds xs (k + 1))) 0 = u8s (tk ds xs (k + 1))) := hide (by
          unfold spl
          rw [List.drop_of_length_le (by rw [u8s_length, zer_length, HTD.out]; omega)]
          simp)
        rw [EZ.out] at hgs
        have Bs := hide (B4.out.trans (hbuts.below hl12'))
        have SDs := hide (hgs.sl0 HTB1.out (by rw [HTL.out]; omega))
        rw [HTL.out] at SDs
        have hslz := slice_Dg g12
        have Oz := hide (O.out.below Bs.out)
        clear hgs hbuts
        have ho0 : Own (vs.alloc (.cells #[] 5)) vs.heap.size (.slice (some ⟨vs.heap.size, 0, none⟩) 0 0) [] := Own.of_blk (xs := []) (Blk.made vs 5 []) (Nat.le_refl _) (by simp)
        have hb0 : Below vs.heap.size vs (vs.alloc (.cells #[] 5)) := (Below.refl _ _).alloc (Nat.le_refl _) _
        go_wp2_with (refine step_append rfl rfl rfl ho0 (SDs.out.below hb0) (by simp) (by simp) ?_)
        intro v9 we ho9 hg9 hn9
        rw [List.nil_append] at ho9
        have B9 := hide (hb0.trans (Below.of_grown hg9 hb0.size ho0.lt))
        have hv9 : v9 ≠ .slice none 0 0 := fun e => by have e2 := (hn9 e).1; cases e2
        have O9 := hide ho9
        obtain ⟨g9, c9, e9, hl9, hs9⟩ := ho9.sl HTB1.out (by rw [HTL.out]; omega) hv9
        subst e9
        rw [HTL.out] at hs9 O9 ⊢
        have S9 := hide hs9
        have Oe := hide (Oz.out.below B9.out)
        have Be := hide (Bs.out.trans (B9.out.mono Bs.out.size))
        have hOb : ∀ q, Value.ownBlock (.slice ao (32 * k) co) = some q → q < vs.heap.size := fun q hq => (World.ownsRow.lt Oz.out.a q hq).2
        have O2 : Hid (Own2 we w1.heap.size (.slice ao (32 * k) co) (.slice (some ⟨g9, 0, none⟩) 32 c9) (exl ds xs k) (tk ds xs (k + 1))) := hide ⟨Oe.out.a, O9.out.mono (Nat.le_trans B.out.size Bs.out.size), by
          right
          intro h
          have := hOb g9 h
          omega⟩
        clear ho0 hb0 ho9 hg9 hn9 hv9 hs9
        go_wp2_with (refine step_appendL rfl rfl rfl O2.out.a S9.out (by omega) (by rw [HEL.out]; omega) (Nat.le_trans B.out.size Be.out.size) ?_)
        intro gx cx wx hox hgx hlx
        have O3 := hide (O2.out.grow hox hgx (hlx.imp id fun e => by omega))
        have BX := hide ((B.out.trans (Be.out.mono B.out.size)).trans (Below.of_grown hgx (Nat.le_trans B.out.size Be.out.size) O2.out.a.lt))
        have GX := hide (G3.out.below BX.out G3.out.lt)
        clear hox hgx hlx
        go_wp2
        go_roundw
        case rel => exact ⟨k + 1, by omega, by go_num, O3.out, BX.out⟩
        case measure => simp [lenOf]; rw [HEL.out]; omega
    · obtain rfl : k = (n + 31) / 32 := by omega
      have hlt' : ¬ (32 * (((n + 31) / 32 : Nat) : Int) < (n : Int)) := by omega
      have OA := hide O.out.a
      obtain ⟨a', c', e', hrun, hst, hfr⟩ := OA.out.take (exl_isB ds xs _) (by rw [HEL.out]; omega) n (by rw [HEL.out]; omega)
      rw [HEL.out] at e'
      cases e'
      have ST := hide hst
      have FR := hide hfr
      clear hst hfr
      go_wp2
      go_ret2
      exact ⟨_, _, rfl, ST.out, fun x hx => Nat.le_trans HB1.out.size (FR.out x hx), HB1.out.trans (B.out.mono HB1.out.size)⟩

end Go.Proofs.YtefaabmkcgdkiaaDoor
