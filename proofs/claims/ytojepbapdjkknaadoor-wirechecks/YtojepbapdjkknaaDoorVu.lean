/-
  The document's root that a proof leads to.
-/
import Derived.Test.YtojepbapdjkknaaDoorVj
namespace Go.Proofs.YtojepbapdjkknaaDoor
open Go.RowKit
set_option linter.unusedVariables false

theorem fu_app (A B xs d : List Int) : ∀ k, k ≤ A.length → fu (A ++ B) xs d k = fu A xs d k
  | 0, _ => rfl
  | k + 1, h => by
    show jn ((A ++ B).getD k 0) (fu (A ++ B) xs d k) _ = jn (A.getD k 0) (fu A xs d k) _
    rw [fu_app A B xs d k (by omega)]
    congr 1
    simp [List.getD, List.getElem?_append_left (show k < A.length by omega)]
theorem dat_take (xs : List Int) (m k : Nat) (h : k < m) : dat (xs.take (32 * m)) k = dat xs k := by
  unfold dat
  rw [List.drop_take, List.take_take]
  congr 1
  omega
theorem fu_take (hs xs d : List Int) (m : Nat) : ∀ k, k ≤ m → fu hs (xs.take (32 * m)) d k = fu hs xs d k
  | 0, _ => rfl
  | k + 1, h => by
    show jn _ (fu hs _ d k) _ = jn _ (fu hs xs d k) _
    rw [fu_take hs xs d m k (by omega), dat_take xs m k (by omega)]
theorem fu_snoc (A xs d : List Int) (h : Int) : fu (A ++ [h]) xs d (A.length + 1) = jn h (fu A (xs.take (32 * A.length)) d A.length) (dat xs A.length) := by
  show jn ((A ++ [h]).getD A.length 0) (fu (A ++ [h]) xs d A.length) _ = _
  rw [fu_app A [h] xs d _ (Nat.le_refl _), fu_take A xs d A.length _ (Nat.le_refl _)]
  congr 1
  simp [List.getD]

set_option maxRecDepth 100000 in
set_option maxHeartbeats 2000000 in
theorem upR_any (leaf : List Int) (i : Nat) (hlf : leaf.length = 32) (hlb : isB leaf) : ∀ (f b n l : Nat) (a : Option Addr) (cap : Nat) (xs : List Int) (w : World), n ≤ f → b ≤ i → i < b + n → b + n ≤ 281474976710656 → l = (hvL i b n).length → Ds w a l cap xs →
    Calls Tryd.prog 96 #[.agg (u8s leaf).toArray, .int .i64 ((i : Int) - (b : Int)), .int .i64 (n : Int), .slice a l cap] w fun r w' => r = .returned (.agg (u8s (fu (hvL i b n) xs leaf l)).toArray) ∧ Below w.heap.size w w'
  | 0, b, n, l, a, cap, xs, w, h, _, _, _, _, _ => by omega
  | f + 1, b, n, l, a, cap, xs, w, h, h1, h2, h3, hl, hs => by
    have ih := hide (fun b n l a cap xs w => upR_any leaf i hlf hlb f b n l a cap xs w)
    have HLL := hide (show (u8s leaf).length = 32 by rw [u8s_length, hlf])
    have HS := hide hs
    have hcap := hs.hcap
    have hmax := hs.hmax
    clear hs
    by_cases hn : n = 1
    · subst hn
      rw [hvL_one] at hl ⊢
      subst hl
      rw [show fu [] xs leaf ([] : List Int).length = leaf from rfl]
      clear ih
      go_enter Tryd.func96, Tryd.ntmps96
      go_wp2_with (refine step_box rfl rfl ?_)
      intro w1 g4 hr1 hl1 hb1
      have G4 := hide hr1
      clear hr1
      go_wp2_with (refine step_alloc zD rfl ?_)
      intro w2 g8 hr2 hl2 hb2
      have G8 := hide hr2
      have G42 := hide (G4.out.below hb2 G4.out.lt)
      have B2 := hide (hb1.trans (hb2.mono hb1.size))
      have hw8 : w.heap.size ≤ g8 := Nat.le_trans hb1.size hl2
      have h48 : g4 ≠ g8 := by have := G4.out.lt; omega
      clear hr2 hb1 hb2 G4
      go_wp2_with (first | (refine step_loadA wD rfl rfl G42.out HLL.out ?_) | (refine step_storeA wD rfl rfl rfl G8.out HLL.out (One.u8 _) rfl ?_; intro w3 hg3 hbut3))
      refine bodyPost_ret (results_wide rfl wD _ _ rfl hg3 HLL.out) rfl ⟨rfl, ?_⟩
      exact B2.out.trans (hbut3.below hw8)
    · have hn2 : 2 ≤ n := by omega
      have hn' : ¬ ((n : Int) = 1) := by omega
      have hh := hf_bd n hn2 (by omega)
      have HH := hide (fun v => half7_any n v hn2 (by omega))
      by_cases hc : i < b + hf n
      · have hlen := hvL_few h1 hc (by omega)
        rw [hvL_lo hn2 (by omega) h1 hc] at hl ⊢
        have IH := hide (fun (l : Nat) (hl : l = (hvL i b (hf n)).length) a cap xs w hd => ih.out b (hf n) l a cap xs w (by omega) h1 hc (by omega) hl hd)
        generalize hvL i b (hf n) = L at *
        clear ih
        generalize hf n = k at *
        obtain ⟨q, hq⟩ : ∃ q, q = L.length := ⟨_, rfl⟩
        have hl1 : l = q + 1 := by rw [hl, List.length_append, hq]; rfl
        obtain ⟨pb, po, rfl⟩ := HS.out.place (by omega)
        have HF : Hid (fu (L ++ [0]) xs leaf l = nd (fu L (xs.take (32 * q)) leaf q) (dat xs q)) := hide (by rw [hl1, hq]; exact fu_snoc L xs leaf 0)
        replace IH := hide (fun w (hd : Ds w (some ⟨pb, po, none⟩) l cap xs) => IH.out q hq (some ⟨pb, po, none⟩) cap (xs.take (32 * q)) w (Ds.take hd q (by omega)))
        have hat := d_at pb po l cap q ((l : Int) - 1) (by omega) (by omega)
        have hto := d_to pb po l cap q ((l : Int) - 1) (by omega) (by omega)
        have HUL := hide (show (u8s (dat xs q)).length = 32 by rw [u8s_length, dat_length HS.out.hlen (show q < l by omega)])
        have HXD := hide (dat_length HS.out.hlen (show q < l by omega))
        have HXB := hide (dat_isB HS.out.hbyte q)
        have HDD := hide (fu_length (hs := L) (xs := xs.take (32 * q)) hlf q)
        have HDB := hide (fu_isB (hs := L) (xs := xs.take (32 * q)) hlb q)
        generalize fu L (xs.take (32 * q)) leaf q = Dq at *
        have hc' : (i : Int) - (b : Int) < (k : Int) := by omega
        have HL1 := hide hl1
        have hl2 : 1 ≤ l := by omega
        clear hl hq hl1
        go_enter Tryd.func96, Tryd.ntmps96
        go_wp2_with (refine step_box rfl rfl ?_)
        intro w1 g4 hr1 hl1 hb1
        have G4 := hide hr1
        clear hr1
        go_wp2_with (refine step_alloc zD rfl ?_)
        intro w2 g8 hr2 hl2 hb2
        have G8 := hide hr2
        have G42 := hide (G4.out.below hb2 G4.out.lt)
        have B2 := hide (hb1.trans (hb2.mono hb1.size))
        have hw8 : w.heap.size ≤ g8 := Nat.le_trans hb1.size hl2
        have h48 : g4 ≠ g8 := by have := G4.out.lt; omega
        clear hr2 hb1 hb2 G4
        go_wp2_with fail
        refine (HH.out _).mono ?_
        rintro r w' ⟨rfl, rfl⟩
        have HRG := hide ((HS.out.below B2.out).range q (by have := HL1.out; omega))
        go_wp2_with (first | (refine step_loadR wD rfl rfl _ HRG.out HUL.out ?_) | (refine step_alloc zD rfl ?_))
        intro w3 g10 hr3 hl3 hb3
        have G10 := hide hr3
        clear hr3
        go_wp2_with (refine step_storeA wD rfl rfl rfl G10.out HUL.out (One.u8 _) rfl ?_)
        intro w4 hg4 hbut4
        have B4 := hide (new_below B2.out hb3 hl3 hbut4)
        have X4 := hide (hb3.trans (hbut4.below hl3))
        have L4 := hide (G42.out.on X4.out)
        have R4 := hide (G8.out.on X4.out)
        have X5 := hide hg4
        have h810 : g10 ≠ g8 := by have := G8.out.lt; omega
        clear hg4 hbut4 hb3 G10 HRG G42 G8 X4 hat
        go_wp2_with fail
        refine wp_region_noPanic ?_
        have B0 := hide (B4.out.drew)
        have L0 := hide (L4.out.on ((Below.refl _ _).drew))
        have R0 := hide (R4.out.on ((Below.refl _ _).drew))
        have X0 := hide (X5.out.on ((Below.refl _ _).drew))
        have hu := aD.und
        have HI1 : Hid ((Tryd.prog.info? 45).map (·.size) = some (u8s leaf).length) := hide (by rw [wD.size, HLL.out])
        have HI2 : Hid ((Tryd.prog.info? 45).map (·.size) = some (u8s (dat xs q)).length) := hide (by rw [wD.size, HUL.out])
        have hS : ∀ v : World, Blk v g4 45 (u8s leaf) → Blk v g10 45 (u8s (dat xs q)) → v.rangeAt g4 0 (u8s leaf) ∧ v.rangeAt g10 0 (u8s (dat xs q)) := fun v h1 h2 => ⟨h1.range 0 _ (by simp), h2.range 0 _ (by simp)⟩
        clear L4 R4 X5 B4
        refine wp_region_held_drew (S := fun v : World => v.rangeAt g4 0 (u8s leaf) ∧ v.rangeAt g10 0 (u8s (dat xs q))) (by kernel_rfl) (hS _ L0.out X0.out) (fun hHeld => ?_)
        refine takeH 0 31 (.agg (u8s leaf).toArray) hHeld rfl rfl (by kernel_rfl) (by kernel_rfl) (by kernel_rfl) (fun _ _ _ h => h) (yieldsIf_load_mid (by rfl) _ _ rfl g4 0 rfl _ _ (fun w h => h.1) hu rfl HI1.out) ?_
        simp only [Act.put, List.setIfInBounds_toArray, List.set_cons_zero, List.set_cons_succ]
        refine takeH 1 32 (.int .i64 ((i : Int) - (b : Int))) hHeld rfl rfl (by kernel_rfl) (by kernel_rfl) (by kernel_rfl) (fun _ _ _ h => h) (Or.inl ⟨by rfl, fun w _ => by go_simp⟩) ?_
        simp only [Act.put, List.setIfInBounds_toArray, List.set_cons_zero, List.set_cons_succ]
        refine takeH 2 33 (.int .i64 (k : Int)) hHeld rfl rfl (by kernel_rfl) (by kernel_rfl) (by kernel_rfl) (fun _ _ _ h => h) (Or.inl ⟨by rfl, fun w _ => by go_simp⟩) ?_
        simp only [Act.put, List.setIfInBounds_toArray, List.set_cons_zero, List.set_cons_succ]
        refine takeH 3 34 (.slice (some ⟨pb, po, none⟩) q cap) hHeld rfl rfl (by kernel_rfl) (by kernel_rfl) (by kernel_rfl) (fun _ _ _ h => h) (Or.inl ⟨by rfl, fun w _ => by go_simp⟩) ?_
        simp only [Act.put, List.setIfInBounds_toArray, List.set_cons_zero, List.set_cons_succ]
        refine takeH 5 36 (.agg (u8s (dat xs q)).toArray) hHeld rfl rfl (by kernel_rfl) (by kernel_rfl) (by kernel_rfl) (fun _ _ _ h => h) (yieldsIf_load_mid (by rfl) _ _ rfl g10 0 rfl _ _ (fun w h => h.2) hu rfl HI2.out) ?_
        simp only [Act.put, List.setIfInBounds_toArray, List.set_cons_zero, List.set_cons_succ]
        refine wpAnyH_ready (rs := [4]) (by kernel_rfl) (by simp) (AllReadyH.cons rfl (fun K hK => ?_) AllReadyH.nil)
        rw [if_pos (by rfl)]
        go_simp
        refine (IH.out _ (HS.out.below B0.out)).mono ?_
        rintro r v1 ⟨rfl, hv1⟩
        have B1 := hide (on_below B0.out hv1)
        have L1 := hide (L0.out.on hv1)
        have R1 := hide (R0.out.on hv1)
        have X1 := hide (X0.out.on hv1)
        clear B0 L0 R0 X0 hv1
        refine hK.out _ _ (hS _ L1.out X1.out) (fun hHeld => ?_)
        clear hK K
        refine wpAnyH_ready (rs := [6]) (by kernel_rfl) (by simp) (AllReadyH.cons rfl (fun K hK => ?_) AllReadyH.nil)
        rw [if_pos (by rfl)]
        go_simp
        refine (nodeR_any Dq (dat xs q) _ HDD.out HDB.out HXD.out HXB.out).mono ?_
        rintro r v2 ⟨rfl, hv2⟩
        have B2 := hide (on_below B1.out hv2)
        have L2 := hide (L1.out.on hv2)
        have R2 := hide (R1.out.on hv2)
        have X2 := hide (X1.out.on hv2)
        clear B1 L1 R1 X1 hv2
        refine hK.out _ _ (hS _ L2.out X2.out) (fun hHeld => ?_)
        clear hK K
        refine wpAnyH_ready (rs := [7]) (by kernel_rfl) (by simp) (AllReadyH.cons rfl (fun K hK => ?_) AllReadyH.nil)
        rw [if_pos (by rfl)]
        refine wp_storeW wD rfl rfl rfl R2.out (by rw [u8s_length]; exact nd_length _ _) (One.u8 _) (by rw [u8s_length, zer_length]; omega) ?_
        intro v3 hgs hbuts
        rw [spl_same _ _ (zer_length 32) (nd_length _ _)] at hgs
        refine hK.out _ _ (hS _ (L2.out.but hbuts h48) (X2.out.but hbuts h810)) (fun hHeld => ?_)
        clear hK K
        simp only [Act.put]
        refine wpAnyH_done (by kernel_rfl) ?_ _
        refine NoPanic.normal ?_
        clear hHeld hS hu
        go_wp2
        refine bodyPost_ret (results_wide rfl wD _ _ rfl hgs (by rw [u8s_length, nd_length])) rfl ⟨?_, B2.out.trans (hbuts.below hw8)⟩
        rw [HF.out]
      · have hlen := hvL_few (show b + hf n ≤ i by omega) (show i < b + hf n + (n - hf n) by omega) (by omega)
        rw [hvL_hi hn2 (by omega) h2 hc] at hl ⊢
        have IH := hide (fun (l : Nat) (hl : l = (hvL i (b + hf n) (n - hf n)).length) a cap xs w hd => ih.out (b + hf n) (n - hf n) l a cap xs w (by omega) (by omega) (by omega) (by omega) hl hd)
        generalize hvL i (b + hf n) (n - hf n) = L at *
        clear ih
        generalize hf n = k at *
        obtain ⟨q, hq⟩ : ∃ q, q = L.length := ⟨_, rfl⟩
        have hl1 : l = q + 1 := by rw [hl, List.length_append, hq]; rfl
        obtain ⟨pb, po, rfl⟩ := HS.out.place (by omega)
        have HF : Hid (fu (L ++ [1]) xs leaf l = nd (dat xs q) (fu L (xs.take (32 * q)) leaf q)) := hide (by rw [hl1, hq]; exact fu_snoc L xs leaf 1)
        replace IH := hide (fun w (hd : Ds w (some ⟨pb, po, none⟩) l cap xs) => IH.out q hq (some ⟨pb, po, none⟩) cap (xs.take (32 * q)) w (Ds.take hd q (by omega)))
        have e2 : ((n - k : Nat) : Int) = (n : Int) - (k : Int) := by omega
        have e3 : (i : Int) - ((b + k : Nat) : Int) = (i : Int) - (b : Int) - (k : Int) := by omega
        rw [e3, e2] at IH
        have hat := d_at pb po l cap q ((l : Int) - 1) (by omega) (by omega)
        have hto := d_to pb po l cap q ((l : Int) - 1) (by omega) (by omega)
        have HUL := hide (show (u8s (dat xs q)).length = 32 by rw [u8s_length, dat_length HS.out.hlen (show q < l by omega)])
        have HXD := hide (dat_length HS.out.hlen (show q < l by omega))
        have HXB := hide (dat_isB HS.out.hbyte q)
        have HDD := hide (fu_length (hs := L) (xs := xs.take (32 * q)) hlf q)
        have HDB := hide (fu_isB (hs := L) (xs := xs.take (32 * q)) hlb q)
        generalize fu L (xs.take (32 * q)) leaf q = Dq at *
        have hc' : ¬ (i : Int) - (b : Int) < (k : Int) := by omega
        have hw1 : IntKind.i64.wrap ((i : Int) - (b : Int) - (k : Int)) = (i : Int) - (b : Int) - (k : Int) := by rw [IntKind.wrap_i64]; omega
        have hw2 : IntKind.i64.wrap ((n : Int) - (k : Int)) = (n : Int) - (k : Int) := by rw [IntKind.wrap_i64]; omega
        have HL1 := hide hl1
        have hl2 : 1 ≤ l := by omega
        clear hl hq e2 e3 hl1
        go_enter Tryd.func96, Tryd.ntmps96
        go_wp2_with (refine step_box rfl rfl ?_)
        intro w1 g4 hr1 hl1 hb1
        have G4 := hide hr1
        clear hr1
        go_wp2_with (refine step_alloc zD rfl ?_)
        intro w2 g8 hr2 hl2 hb2
        have G8 := hide hr2
        have G42 := hide (G4.out.below hb2 G4.out.lt)
        have B2 := hide (hb1.trans (hb2.mono hb1.size))
        have hw8 : w.heap.size ≤ g8 := Nat.le_trans hb1.size hl2
        have h48 : g4 ≠ g8 := by have := G4.out.lt; omega
        clear hr2 hb1 hb2 G4
        go_wp2_with fail
        refine (HH.out _).mono ?_
        rintro r w' ⟨rfl, rfl⟩
        have HRG := hide ((HS.out.below B2.out).range q (by have := HL1.out; omega))
        go_wp2_with (first | (refine step_loadR wD rfl rfl _ HRG.out HUL.out ?_) | (refine step_alloc zD rfl ?_))
        intro w3 g10 hr3 hl3 hb3
        have G10 := hide hr3
        clear hr3
        go_wp2_with (refine step_storeA wD rfl rfl rfl G10.out HUL.out (One.u8 _) rfl ?_)
        intro w4 hg4 hbut4
        have B4 := hide (new_below B2.out hb3 hl3 hbut4)
        have X4 := hide (hb3.trans (hbut4.below hl3))
        have L4 := hide (G42.out.on X4.out)
        have R4 := hide (G8.out.on X4.out)
        have X5 := hide hg4
        have h810 : g10 ≠ g8 := by have := G8.out.lt; omega
        clear hg4 hbut4 hb3 G10 HRG G42 G8 X4 hat
        go_wp2_with fail
        refine wp_region_noPanic ?_
        have B0 := hide (B4.out.drew)
        have L0 := hide (L4.out.on ((Below.refl _ _).drew))
        have R0 := hide (R4.out.on ((Below.refl _ _).drew))
        have X0 := hide (X5.out.on ((Below.refl _ _).drew))
        have hu := aD.und
        have HI1 : Hid ((Tryd.prog.info? 45).map (·.size) = some (u8s leaf).length) := hide (by rw [wD.size, HLL.out])
        have HI2 : Hid ((Tryd.prog.info? 45).map (·.size) = some (u8s (dat xs q)).length) := hide (by rw [wD.size, HUL.out])
        have hS : ∀ v : World, Blk v g4 45 (u8s leaf) → Blk v g10 45 (u8s (dat xs q)) → v.rangeAt g4 0 (u8s leaf) ∧ v.rangeAt g10 0 (u8s (dat xs q)) := fun v h1 h2 => ⟨h1.range 0 _ (by simp), h2.range 0 _ (by simp)⟩
        clear L4 R4 X5 B4
        refine wp_region_held_drew (S := fun v : World => v.rangeAt g4 0 (u8s leaf) ∧ v.rangeAt g10 0 (u8s (dat xs q))) (by kernel_rfl) (hS _ L0.out X0.out) (fun hHeld => ?_)
        refine takeH 0 38 (.agg (u8s (dat xs q)).toArray) hHeld rfl rfl (by kernel_rfl) (by kernel_rfl) (by kernel_rfl) (fun _ _ _ h => h) (yieldsIf_load_mid (by rfl) _ _ rfl g10 0 rfl _ _ (fun w h => h.2) hu rfl HI2.out) ?_
        simp only [Act.put, List.setIfInBounds_toArray, List.set_cons_zero, List.set_cons_succ]
        refine takeH 1 39 (.agg (u8s leaf).toArray) hHeld rfl rfl (by kernel_rfl) (by kernel_rfl) (by kernel_rfl) (fun _ _ _ h => h) (yieldsIf_load_mid (by rfl) _ _ rfl g4 0 rfl _ _ (fun w h => h.1) hu rfl HI1.out) ?_
        simp only [Act.put, List.setIfInBounds_toArray, List.set_cons_zero, List.set_cons_succ]
        refine takeH 2 40 (.int .i64 ((i : Int) - (b : Int))) hHeld rfl rfl (by kernel_rfl) (by kernel_rfl) (by kernel_rfl) (fun _ _ _ h => h) (Or.inl ⟨by rfl, fun w _ => by go_simp⟩) ?_
        simp only [Act.put, List.setIfInBounds_toArray, List.set_cons_zero, List.set_cons_succ]
        refine takeH 3 41 (.int .i64 (k : Int)) hHeld rfl rfl (by kernel_rfl) (by kernel_rfl) (by kernel_rfl) (fun _ _ _ h => h) (Or.inl ⟨by rfl, fun w _ => by go_simp⟩) ?_
        simp only [Act.put, List.setIfInBounds_toArray, List.set_cons_zero, List.set_cons_succ]
        refine takeH 4 42 (.int .i64 ((i : Int) - (b : Int) - (k : Int))) hHeld rfl rfl (by kernel_rfl) (by kernel_rfl) (by kernel_rfl) (fun _ _ _ h => h) (Or.inl ⟨by rfl, fun w _ => by go_simp⟩) ?_
        simp only [Act.put, List.setIfInBounds_toArray, List.set_cons_zero, List.set_cons_succ]
        refine takeH 5 43 (.int .i64 (n : Int)) hHeld rfl rfl (by kernel_rfl) (by kernel_rfl) (by kernel_rfl) (fun _ _ _ h => h) (Or.inl ⟨by rfl, fun w _ => by go_simp⟩) ?_
        simp only [Act.put, List.setIfInBounds_toArray, List.set_cons_zero, List.set_cons_succ]
        refine takeH 6 44 (.int .i64 (k : Int)) hHeld rfl rfl (by kernel_rfl) (by kernel_rfl) (by kernel_rfl) (fun _ _ _ h => h) (Or.inl ⟨by rfl, fun w _ => by go_simp⟩) ?_
        simp only [Act.put, List.setIfInBounds_toArray, List.set_cons_zero, List.set_cons_succ]
        refine takeH 7 45 (.int .i64 ((n : Int) - (k : Int))) hHeld rfl rfl (by kernel_rfl) (by kernel_rfl) (by kernel_rfl) (fun _ _ _ h => h) (Or.inl ⟨by rfl, fun w _ => by go_simp⟩) ?_
        simp only [Act.put, List.setIfInBounds_toArray, List.set_cons_zero, List.set_cons_succ]
        refine takeH 8 46 (.slice (some ⟨pb, po, none⟩) q cap) hHeld rfl rfl (by kernel_rfl) (by kernel_rfl) (by kernel_rfl) (fun _ _ _ h => h) (Or.inl ⟨by rfl, fun w _ => by go_simp⟩) ?_
        simp only [Act.put, List.setIfInBounds_toArray, List.set_cons_zero, List.set_cons_succ]
        refine wpAnyH_ready (rs := [9]) (by kernel_rfl) (by simp) (AllReadyH.cons rfl (fun K hK => ?_) AllReadyH.nil)
        rw [if_pos (by rfl)]
        go_simp
        refine (IH.out _ (HS.out.below B0.out)).mono ?_
        rintro r v1 ⟨rfl, hv1⟩
        have B1 := hide (on_below B0.out hv1)
        have L1 := hide (L0.out.on hv1)
        have R1 := hide (R0.out.on hv1)
        have X1 := hide (X0.out.on hv1)
        clear B0 L0 R0 X0 hv1
        refine hK.out _ _ (hS _ L1.out X1.out) (fun hHeld => ?_)
        clear hK K
        refine wpAnyH_ready (rs := [10]) (by kernel_rfl) (by simp) (AllReadyH.cons rfl (fun K hK => ?_) AllReadyH.nil)
        rw [if_pos (by rfl)]
        go_simp
        refine (nodeR_any (dat xs q) Dq _ HXD.out HXB.out HDD.out HDB.out).mono ?_
        rintro r v2 ⟨rfl, hv2⟩
        have B2 := hide (on_below B1.out hv2)
        have L2 := hide (L1.out.on hv2)
        have R2 := hide (R1.out.on hv2)
        have X2 := hide (X1.out.on hv2)
        clear B1 L1 R1 X1 hv2
        refine hK.out _ _ (hS _ L2.out X2.out) (fun hHeld => ?_)
        clear hK K
        refine wpAnyH_ready (rs := [11]) (by kernel_rfl) (by simp) (AllReadyH.cons rfl (fun K hK => ?_) AllReadyH.nil)
        rw [if_pos (by rfl)]
        refine wp_storeW wD rfl rfl rfl R2.out (by rw [u8s_length]; exact nd_length _ _) (One.u8 _) (by rw [u8s_length, zer_length]; omega) ?_
        intro v3 hgs hbuts
        rw [spl_same _ _ (zer_length 32) (nd_length _ _)] at hgs
        refine hK.out _ _ (hS _ (L2.out.but hbuts h48) (X2.out.but hbuts h810)) (fun hHeld => ?_)
        clear hK K
        simp only [Act.put]
        refine wpAnyH_done (by kernel_rfl) ?_ _
        refine NoPanic.normal ?_
        clear hHeld hS hu
        go_wp2
        refine bodyPost_ret (results_wide rfl wD _ _ rfl hgs (by rw [u8s_length, nd_length])) rfl ⟨?_, B2.out.trans (hbuts.below hw8)⟩
        rw [HF.out]

end Go.Proofs.YtojepbapdjkknaaDoor
