/-
  The two roots that a consistency proof leads to: the document's way.
-/
import Derived.Test.YtojepbapdjkknaaDoorVo
namespace Go.Proofs.YtojepbapdjkknaaDoor
open Go.RowKit
set_option linter.unusedVariables false

theorem fo_app (A B xs d : List Int) : ∀ k, k ≤ A.length → fo (A ++ B) xs d k = fo A xs d k
  | 0, _ => rfl
  | k + 1, h => by
    show (if (A ++ B).getD k 0 = 1 then nd (dat xs k) (fo (A ++ B) xs d k) else fo (A ++ B) xs d k) = if A.getD k 0 = 1 then nd (dat xs k) (fo A xs d k) else fo A xs d k
    rw [fo_app A B xs d k (by omega), show (A ++ B).getD k 0 = A.getD k 0 by simp [List.getD, List.getElem?_append_left (show k < A.length by omega)]]
theorem fo_take (hs xs d : List Int) (m : Nat) : ∀ k, k ≤ m → fo hs (xs.take (32 * m)) d k = fo hs xs d k
  | 0, _ => rfl
  | k + 1, h => by
    show (if hs.getD k 0 = 1 then nd (dat (xs.take (32 * m)) k) (fo hs (xs.take (32 * m)) d k) else fo hs (xs.take (32 * m)) d k) = if hs.getD k 0 = 1 then nd (dat xs k) (fo hs xs d k) else fo hs xs d k
    rw [fo_take hs xs d m k (by omega), dat_take xs m k (by omega)]
theorem fo_snoc (A xs d : List Int) (h : Int) : fo (A ++ [h]) xs d (A.length + 1) = if h = 1 then nd (dat xs A.length) (fo A (xs.take (32 * A.length)) d A.length) else fo A (xs.take (32 * A.length)) d A.length := by
  show (if (A ++ [h]).getD A.length 0 = 1 then nd (dat xs A.length) (fo (A ++ [h]) xs d A.length) else fo (A ++ [h]) xs d A.length) = _
  rw [fo_app A [h] xs d _ (Nat.le_refl _), fo_take A xs d A.length _ (Nat.le_refl _), show (A ++ [h]).getD A.length 0 = h by simp [List.getD]]
theorem dat_drop (xs : List Int) (t k : Nat) : dat (xs.drop (32 * t)) k = dat xs (k + t) := by
  unfold dat
  rw [List.drop_drop]
  congr 2
  omega
/-- What is left of the proof, with its last digest struck. -/
theorem rest_eq (xs : List Int) (q t : Nat) : (xs.take (32 * (q + t))).drop (32 * t) = (xs.drop (32 * t)).take (32 * q) := by
  rw [List.drop_take]
  congr 1
  omega
theorem st0_take (t q : Nat) (d xs : List Int) : st0 t d (xs.take (32 * (q + t))) = st0 t d xs := by
  unfold st0
  split
  · rfl
  · exact dat_take xs (q + t) 0 (by omega)
theorem step_lo (A xs d : List Int) (t : Nat) : fo (A ++ [0]) (xs.drop (32 * t)) d (A.length + 1) = fo A ((xs.take (32 * (A.length + t))).drop (32 * t)) d A.length ∧ fu (A ++ [0]) (xs.drop (32 * t)) d (A.length + 1) = nd (fu A ((xs.take (32 * (A.length + t))).drop (32 * t)) d A.length) (dat xs (A.length + t)) := by
  rw [rest_eq, fo_snoc, fu_snoc, dat_drop, if_neg (by decide)]
  exact ⟨rfl, rfl⟩
theorem step_hi (A xs d : List Int) (t : Nat) : fo (A ++ [1]) (xs.drop (32 * t)) d (A.length + 1) = nd (dat xs (A.length + t)) (fo A ((xs.take (32 * (A.length + t))).drop (32 * t)) d A.length) ∧ fu (A ++ [1]) (xs.drop (32 * t)) d (A.length + 1) = nd (dat xs (A.length + t)) (fu A ((xs.take (32 * (A.length + t))).drop (32 * t)) d A.length) := by
  rw [rest_eq, fo_snoc, fu_snoc, dat_drop, if_pos rfl]
  exact ⟨rfl, rfl⟩

theorem results_ww {fn : Func} {p q : Tmp} {T U : TypeId} (h : fn.results = #[.cell p T, .cell q U]) {n m : Nat} (hT : Wide T n) (hU : Wide U m) (tmps : Array Value) (w : World)
    {g g' : Nat} {t t' : TypeId} {cs cs' : List Value} (hp : tmps.getD p undef = .pointer (some ⟨g, 0, none⟩)) (hq : tmps.getD q undef = .pointer (some ⟨g', 0, none⟩)) (hg : Blk w g t cs) (hg' : Blk w g' t' cs') (hl : cs.length = n) (hl' : cs'.length = m) :
    (results fn tmps).run Tryd.prog w = .ok (.tuple #[.agg cs.toArray, .agg cs'.toArray]) w := by
  have hp' : tmps[p]?.getD undef = .pointer (some ⟨g, 0, none⟩) := by simpa using hp
  have hq' : tmps[q]?.getD undef = .pointer (some ⟨g', 0, none⟩) := by simpa using hq
  obtain ⟨d, hu, hd⟩ := hT.und
  obtain ⟨d', hu', hd'⟩ := hU.und
  simp [results, h, hp', hq', asAddr, run_loadVar_mid w g 0 T cs d (hg.range 0 cs (by simp)) hu hd (by rw [hT.size, hl]), run_loadVar_mid w g' 0 U cs' d' (hg'.range 0 cs' (by simp)) hu' hd' (by rw [hU.size, hl'])]

set_option maxRecDepth 100000 in
set_option maxHeartbeats 4000000 in
theorem twoR_any (d : List Int) (m : Nat) (hm : 1 ≤ m) (hd : d.length = 32) (hdb : isB d) : ∀ (f b n l : Nat) (W : Bool) (a : Option Addr) (cap : Nat) (xs : List Int) (w : World), n ≤ f → b < m → m ≤ b + n → b + n ≤ 281474976710656 → W = decide (b = 0) → l = (hvM m b n).length + ptM m b n → Ds w a l cap xs →
    Calls Tryd.prog 97 #[.agg (u8s d).toArray, .int .i64 ((m : Int) - (b : Int)), .int .i64 (n : Int), .slice a l cap, .bool W] w fun r w' => r = .returned (.tuple #[.agg (u8s (fo (hvM m b n) (xs.drop (32 * ptM m b n)) (st0 (ptM m b n) d xs) (hvM m b n).length)).toArray, .agg (u8s (fu (hvM m b n) (xs.drop (32 * ptM m b n)) (st0 (ptM m b n) d xs) (hvM m b n).length)).toArray]) ∧ Below w.heap.size w w'
  | 0, b, n, l, W, a, cap, xs, w, h, _, _, _, _, _, _ => by omega
  | f + 1, b, n, l, W, a, cap, xs, w, h, h1, h2, h3, hW, hl, hs => by
    have ih := hide (fun b n l W a cap xs w => twoR_any d m hm hd hdb f b n l W a cap xs w)
    have HLL := hide (show (u8s d).length = 32 by rw [u8s_length, hd])
    have HS := hide hs
    have hcap := hs.hcap
    have hmax := hs.hmax
    clear hs
    by_cases hn : b + n = m
    · obtain ⟨e1, e2⟩ := hvM_end hn
      have hn' : (m : Int) - (b : Int) = (n : Int) := by omega
      rw [e1, e2] at hl
      rw [hn', e1, e2]
      clear ih
      by_cases hb : b = 0
      · subst hb
        obtain rfl : W = true := by rw [hW]; rfl
        clear hn' hW hn h1 h2 h3 e1 e2 hl
        have HDD := hide hd
        go_enter Tryd.func97, Tryd.ntmps97
        go_wp2_with (refine step_box rfl rfl ?_)
        intro w1 g5 hr1 hl1 hb1
        have G5 := hide hr1
        clear hr1
        go_wp2_with (refine step_alloc zD rfl ?_)
        intro w2 g10 hr2 hl2 hb2
        have G10 := hide hr2
        have G52 := hide (G5.out.on hb2)
        have B2 := hide (hb1.trans (hb2.mono hb1.size))
        have hw10 : w.heap.size ≤ g10 := Nat.le_trans hb1.size hl2
        have h510 : g5 ≠ g10 := by have := G5.out.lt; omega
        clear hr2 hb1 hb2 G5
        go_wp2_with (refine step_alloc zD rfl ?_)
        intro w3 g11 hr3 hl3 hb3
        have G11 := hide hr3
        have G103 := hide (G10.out.on hb3)
        have G53 := hide (G52.out.on hb3)
        have h1011 : g10 ≠ g11 := by have := G10.out.lt; omega
        have h511 : g5 ≠ g11 := by have := G52.out.lt; omega
        have hw11 : w.heap.size ≤ g11 := Nat.le_trans B2.out.size hl3
        have B3 := hide (on_below B2.out hb3)
        clear hr3 hb3 G10 G52 B2
        go_wp2_with fail
        refine wp_region_noPanic ?_
        have hu := aD.und
        have HI1 : Hid ((Tryd.prog.info? 45).map (·.size) = some (u8s d).length) := hide (by rw [wD.size, HLL.out])
        have U5 := hide (G53.out.on ((Below.refl _ _).drew))
        have U10 := hide (G103.out.on ((Below.refl _ _).drew))
        have U11 := hide (G11.out.on ((Below.refl _ _).drew))
        have UB := hide (B3.out.drew)
        refine wp_region_held_drew (S := fun v : World => v.rangeAt g5 0 (u8s d)) (by kernel_rfl) (U5.out.range 0 _ (by simp)) (fun hHeld => ?_)
        refine takeH 0 23 (.agg (u8s d).toArray) hHeld rfl rfl (by kernel_rfl) (by kernel_rfl) (by kernel_rfl) (fun _ _ _ h => h) (yieldsIf_load_mid (by rfl) _ _ rfl g5 0 rfl _ _ (fun w h => h) hu rfl HI1.out) ?_
        simp only [Act.put, List.setIfInBounds_toArray, List.set_cons_zero, List.set_cons_succ]
        refine takeH 1 24 (.agg (u8s d).toArray) hHeld rfl rfl (by kernel_rfl) (by kernel_rfl) (by kernel_rfl) (fun _ _ _ h => h) (yieldsIf_load_mid (by rfl) _ _ rfl g5 0 rfl _ _ (fun w h => h) hu rfl HI1.out) ?_
        simp only [Act.put, List.setIfInBounds_toArray, List.set_cons_zero, List.set_cons_succ]
        refine wpAnyH_ready (rs := [2]) (by kernel_rfl) (by simp) (AllReadyH.cons rfl (fun K hK => ?_) AllReadyH.nil)
        rw [if_pos (by rfl)]
        refine wp_storeW wD rfl rfl rfl U10.out HLL.out (One.u8 _) (by rw [u8s_length, zer_length]; omega) ?_
        intro u1 hg1 hbut1
        rw [spl_same _ _ (zer_length 32) HDD.out] at hg1
        refine hK.out _ _ ((U5.out.but hbut1 h510).range 0 _ (by simp)) (fun hHeld => ?_)
        clear hK K
        simp only [Act.put]
        have GB1 := hide (U11.out.but hbut1 h1011.symm)
        refine wpAnyH_ready (rs := [3]) (by kernel_rfl) (by simp) (AllReadyH.cons rfl (fun K hK => ?_) AllReadyH.nil)
        rw [if_pos (by rfl)]
        refine wp_storeW wD rfl rfl rfl GB1.out HLL.out (One.u8 _) (by rw [u8s_length, zer_length]; omega) ?_
        intro u2 hg2 hbut2
        rw [spl_same _ _ (zer_length 32) HDD.out] at hg2
        refine hK.out _ _ (((U5.out.but hbut1 h510).but hbut2 h511).range 0 _ (by simp)) (fun hHeld => ?_)
        clear hK K
        simp only [Act.put]
        refine wpAnyH_done (by kernel_rfl) ?_ _
        refine NoPanic.normal ?_
        clear hHeld
        go_wp2
        refine bodyPost_ret (results_ww rfl wD wD _ _ rfl rfl (hg1.but hbut2 h1011) hg2 HLL.out HLL.out) rfl ⟨?_, (UB.out.trans (hbut1.below hw10)).trans (hbut2.below hw11)⟩
        rfl
      · obtain rfl : W = false := by rw [hW]; simp [hb]
        rw [if_neg hb] at hl ⊢
        have hl0 : l = 1 := by rw [hl]; rfl
        subst hl0
        obtain ⟨pb, po, rfl⟩ := HS.out.place (by omega)
        have hat := d_at pb po 1 cap 0 0 rfl (by omega)
        have HDD := hide (dat_length HS.out.hlen (show 0 < 1 by omega))
        have HDU := hide (show (u8s (dat xs 0)).length = 32 by rw [u8s_length, HDD.out])
        have hpo : ∀ v : World, Ds v (some ⟨pb, po, none⟩) 1 cap xs → v.rangeAt pb po (u8s (dat xs 0)) := fun v hv => hv.range 0 (by omega)
        clear hn' hW hn h1 h2 h3 e1 e2 hl
        go_enter Tryd.func97, Tryd.ntmps97
        go_wp2_with (refine step_box rfl rfl ?_)
        intro w1 g5 hr1 hl1 hb1
        have G5 := hide hr1
        clear hr1
        go_wp2_with (refine step_alloc zD rfl ?_)
        intro w2 g10 hr2 hl2 hb2
        have G10 := hide hr2
        have G52 := hide (G5.out.on hb2)
        have B2 := hide (hb1.trans (hb2.mono hb1.size))
        have hw10 : w.heap.size ≤ g10 := Nat.le_trans hb1.size hl2
        have h510 : g5 ≠ g10 := by have := G5.out.lt; omega
        clear hr2 hb1 hb2 G5
        go_wp2_with (refine step_alloc zD rfl ?_)
        intro w3 g11 hr3 hl3 hb3
        have G11 := hide hr3
        have G103 := hide (G10.out.on hb3)
        have G53 := hide (G52.out.on hb3)
        have h1011 : g10 ≠ g11 := by have := G10.out.lt; omega
        have h511 : g5 ≠ g11 := by have := G52.out.lt; omega
        have hw11 : w.heap.size ≤ g11 := Nat.le_trans B2.out.size hl3
        have B3 := hide (on_below B2.out hb3)
        clear hr3 hb3 G10 G52 B2
        go_wp2_with fail
        refine wp_region_noPanic ?_
        have hu := aD.und
        have HI1 : Hid ((Tryd.prog.info? 45).map (·.size) = some (u8s (dat xs 0)).length) := hide (by rw [wD.size, HDU.out])
        have U10 := hide (G103.out.on ((Below.refl _ _).drew))
        have U11 := hide (G11.out.on ((Below.refl _ _).drew))
        have UB := hide (B3.out.drew)
        refine wp_region_held_drew (S := fun v : World => v.rangeAt pb po (u8s (dat xs 0))) (by kernel_rfl) (hpo _ (HS.out.below UB.out)) (fun hHeld => ?_)
        refine takeH 0 25 (.slice (some ⟨pb, po, none⟩) 1 cap) hHeld rfl rfl (by kernel_rfl) (by kernel_rfl) (by kernel_rfl) (fun _ _ _ h => h) (Or.inl ⟨by rfl, fun w _ => by go_simp⟩) ?_
        simp only [Act.put, List.setIfInBounds_toArray, List.set_cons_zero, List.set_cons_succ]
        refine takeH 1 26 (.pointer (some ⟨pb, po, none⟩)) hHeld rfl rfl (by kernel_rfl) (by kernel_rfl) (by kernel_rfl) (fun _ _ _ h => h) (Or.inl ⟨by rfl, fun w _ => run_op rfl ((d_at pb po 1 cap 0 0 rfl (by omega)) w)⟩) ?_
        simp only [Act.put, List.setIfInBounds_toArray, List.set_cons_zero, List.set_cons_succ]
        refine takeH 2 27 (.agg (u8s (dat xs 0)).toArray) hHeld rfl rfl (by kernel_rfl) (by kernel_rfl) (by kernel_rfl) (fun _ _ _ h => h) (yieldsIf_load_mid (by rfl) _ _ rfl pb po rfl _ _ (fun w h => h) hu rfl HI1.out) ?_
        simp only [Act.put, List.setIfInBounds_toArray, List.set_cons_zero, List.set_cons_succ]
        refine takeH 3 28 (.slice (some ⟨pb, po, none⟩) 1 cap) hHeld rfl rfl (by kernel_rfl) (by kernel_rfl) (by kernel_rfl) (fun _ _ _ h => h) (Or.inl ⟨by rfl, fun w _ => by go_simp⟩) ?_
        simp only [Act.put, List.setIfInBounds_toArray, List.set_cons_zero, List.set_cons_succ]
        refine takeH 4 29 (.pointer (some ⟨pb, po, none⟩)) hHeld rfl rfl (by kernel_rfl) (by kernel_rfl) (by kernel_rfl) (fun _ _ _ h => h) (Or.inl ⟨by rfl, fun w _ => run_op rfl ((d_at pb po 1 cap 0 0 rfl (by omega)) w)⟩) ?_
        simp only [Act.put, List.setIfInBounds_toArray, List.set_cons_zero, List.set_cons_succ]
        refine takeH 5 30 (.agg (u8s (dat xs 0)).toArray) hHeld rfl rfl (by kernel_rfl) (by kernel_rfl) (by kernel_rfl) (fun _ _ _ h => h) (yieldsIf_load_mid (by rfl) _ _ rfl pb po rfl _ _ (fun w h => h) hu rfl HI1.out) ?_
        simp only [Act.put, List.setIfInBounds_toArray, List.set_cons_zero, List.set_cons_succ]
        refine wpAnyH_ready (rs := [6]) (by kernel_rfl) (by simp) (AllReadyH.cons rfl (fun K hK => ?_) AllReadyH.nil)
        rw [if_pos (by rfl)]
        refine wp_storeW wD rfl rfl rfl U10.out HDU.out (One.u8 _) (by rw [u8s_length, zer_length]; omega) ?_
        intro u1 hg1 hbut1
        rw [spl_same _ _ (zer_length 32) HDD.out] at hg1
        refine hK.out _ _ (hpo _ (HS.out.below (UB.out.trans (hbut1.below hw10)))) (fun hHeld => ?_)
        clear hK K
        simp only [Act.put]
        have GB1 := hide (U11.out.but hbut1 h1011.symm)
        refine wpAnyH_ready (rs := [7]) (by kernel_rfl) (by simp) (AllReadyH.cons rfl (fun K hK => ?_) AllReadyH.nil)
        rw [if_pos (by rfl)]
        refine wp_storeW wD rfl rfl rfl GB1.out HDU.out (One.u8 _) (by rw [u8s_length, zer_length]; omega) ?_
        intro u2 hg2 hbut2
        rw [spl_same _ _ (zer_length 32) HDD.out] at hg2
        refine hK.out _ _ (hpo _ (HS.out.below ((UB.out.trans (hbut1.below hw10)).trans (hbut2.below hw11)))) (fun hHeld => ?_)
        clear hK K
        simp only [Act.put]
        refine wpAnyH_done (by kernel_rfl) ?_ _
        refine NoPanic.normal ?_
        clear hHeld
        go_wp2
        refine bodyPost_ret (results_ww rfl wD wD _ _ rfl rfl (hg1.but hbut2 h1011) hg2 HDU.out HDU.out) rfl ⟨?_, (UB.out.trans (hbut1.below hw10)).trans (hbut2.below hw11)⟩
        rfl
    · have hn2 : 2 ≤ n := by omega
      have hn' : ¬ ((m : Int) - (b : Int) = (n : Int)) := by omega
      have hh := hf_bd n hn2 (by omega)
      have HH := hide (fun v => half7_any n v hn2 (by omega))
      by_cases hc : m - 1 < b + hf n
      · have hlen := hvM_few hm h1 (show m ≤ b + hf n by omega) (by omega)
        have hpt := ptM_le m b (hf n)
        obtain ⟨e1, e2⟩ := hvM_lo hm hn hn2 (by omega) h1 hc
        rw [e1, e2] at hl
        rw [e1, e2]
        have IH := hide (fun (l : Nat) (hl : l = (hvM m b (hf n)).length + ptM m b (hf n)) a cap xs w hd => ih.out b (hf n) l W a cap xs w (by omega) h1 (by omega) (by omega) hW hl hd)
        generalize hvM m b (hf n) = L at *
        generalize ptM m b (hf n) = T at *
        clear ih
        generalize hf n = k at *
        obtain ⟨q, hq⟩ : ∃ q, q = L.length + T := ⟨_, rfl⟩
        have hl1 : l = q + 1 := by rw [hl, List.length_append, hq]; simp; omega
        obtain ⟨pb, po, rfl⟩ := HS.out.place (by omega)
        have hstp := step_lo L xs (st0 T d xs) T
        rw [← hq] at hstp
        have hst0 := st0_take T L.length d xs
        rw [← hq] at hst0
        have hxl := HS.out.hlen
        replace IH := hide (fun w (hd : Ds w (some ⟨pb, po, none⟩) l cap xs) => IH.out q (by rw [hq]) (some ⟨pb, po, none⟩) cap (xs.take (32 * q)) w (Ds.take hd q (by omega)))
        rw [hst0] at IH
        have hat := d_at pb po l cap q ((l : Int) - 1) (by omega) (by omega)
        have hto := d_to pb po l cap q ((l : Int) - 1) (by omega) (by omega)
        have HUL := hide (show (u8s (dat xs q)).length = 32 by rw [u8s_length, dat_length HS.out.hlen (show q < l by omega)])
        have HXD := hide (dat_length HS.out.hlen (show q < l by omega))
        have HXB := hide (dat_isB HS.out.hbyte q)
        have hD0 := st0_length (t := T) hd hxl (show T ≤ l by omega)
        have hD1 := st0_isB (t := T) (xs := xs) hdb HS.out.hbyte
        generalize st0 T d xs = D0 at *
        have HOL := hide (fo_length (hs := L) (xs := (xs.take (32 * q)).drop (32 * T)) hD0 L.length)
        have HOB := hide (fo_isB (hs := L) (xs := (xs.take (32 * q)).drop (32 * T)) hD1 L.length)
        have HNL := hide (fu_length (hs := L) (xs := (xs.take (32 * q)).drop (32 * T)) hD0 L.length)
        have HNB := hide (fu_isB (hs := L) (xs := (xs.take (32 * q)).drop (32 * T)) hD1 L.length)
        have HLA : Hid ((L ++ [0]).length = L.length + 1) := hide (by simp)
        generalize fo L ((xs.take (32 * q)).drop (32 * T)) D0 L.length = Oq at *
        generalize fu L ((xs.take (32 * q)).drop (32 * T)) D0 L.length = Nq at *
        have HOU := hide (show (u8s Oq).length = 32 by rw [u8s_length, HOL.out])
        have HNU := hide (show (u8s Nq).length = 32 by rw [u8s_length, HNL.out])
        have HST := hide hstp
        have HL1 := hide hl1
        have hl2 : 1 ≤ l := by omega
        have hl9 : l ≤ 50 := by omega
        have hc' : (m : Int) - (b : Int) ≤ (k : Int) := by omega
        clear hl hq hl1 hstp hxl hst0 e1 e2 hW
        go_enter Tryd.func97, Tryd.ntmps97
        go_wp2_with (refine step_box rfl rfl ?_)
        intro w1 g5 hr1 hl1 hb1
        have G5 := hide hr1
        clear hr1
        go_wp2_with (refine step_alloc zD rfl ?_)
        intro w2 g10 hr2 hl2 hb2
        have G10 := hide hr2
        have G52 := hide (G5.out.on hb2)
        have B2 := hide (hb1.trans (hb2.mono hb1.size))
        have hw10 : w.heap.size ≤ g10 := Nat.le_trans hb1.size hl2
        have h510 : g5 ≠ g10 := by have := G5.out.lt; omega
        clear hr2 hb1 hb2 G5
        go_wp2_with (refine step_alloc zD rfl ?_)
        intro w3 g11 hr3 hl3 hb3
        have G11 := hide hr3
        have G103 := hide (G10.out.on hb3)
        have G53 := hide (G52.out.on hb3)
        have h1011 : g10 ≠ g11 := by have := G10.out.lt; omega
        have h511 : g5 ≠ g11 := by have := G52.out.lt; omega
        have hw11 : w.heap.size ≤ g11 := Nat.le_trans B2.out.size hl3
        have B3 := hide (on_below B2.out hb3)
        clear hr3 hb3 G10 G52 B2
        go_wp2_with fail
        refine (HH.out _).mono ?_
        rintro r w' ⟨rfl, rfl⟩
        have HRG := hide ((HS.out.below B3.out).range q (by have := HL1.out; omega))
        go_wp2_with (first | (refine step_loadR wD rfl rfl _ HRG.out HUL.out ?_) | (refine step_alloc zD rfl ?_))
        intro w4 g13 hr4 hl4 hb4
        have G13 := hide hr4
        clear hr4
        go_wp2_with (refine step_storeA wD rfl rfl rfl G13.out HUL.out (One.u8 _) rfl ?_)
        intro w5 hg5 hbut5
        have X5 := hide (hb4.trans (hbut5.below hl4))
        have P13 := hide hg5
        have P10 := hide (G103.out.on X5.out)
        have P11 := hide (G11.out.on X5.out)
        have P5 := hide (G53.out.on X5.out)
        have PB := hide (on_below B3.out X5.out)
        have h1310 : g13 ≠ g10 := by have := G103.out.lt; omega
        have h1311 : g13 ≠ g11 := by have := G11.out.lt; omega
        clear hg5 hbut5 hb4 G13 HRG G103 G11 G53 B3 X5 hat
        go_wp2_with (refine step_loadA wD rfl rfl P5.out HLL.out ?_)
        refine (IH.out _ (HS.out.below PB.out)).mono ?_
        rintro r w6 ⟨rfl, hb6⟩
        have Q13 := hide (P13.out.on hb6)
        have Q10 := hide (P10.out.on hb6)
        have Q11 := hide (P11.out.on hb6)
        have QB := hide (on_below PB.out hb6)
        clear hb6 P13 P10 P11 P5 PB
        go_wp2_with (refine step_alloc zD rfl ?_)
        intro w7 g15 hr7 hl7 hb7
        have G15 := hide hr7
        clear hr7
        go_wp2_with (refine step_alloc zD rfl ?_)
        intro w8 g16 hr8 hl8 hb8
        have h1516 : g15 ≠ g16 := by have := G15.out.lt; omega
        have G16 := hide hr8
        have G158 := hide (G15.out.on hb8)
        have X8 := hide (on_below hb7 hb8)
        have hl68 : w6.heap.size ≤ g16 := Nat.le_trans hb7.size hl8
        clear hr8 G15 hb7 hb8
        go_wp2_with (refine step_storeA wD rfl rfl rfl G158.out HOU.out (One.u8 _) rfl ?_)
        intro w9 hg9 hbut9
        have G159 := hide hg9
        have G169 := hide (G16.out.but hbut9 h1516.symm)
        have X9 := hide (X8.out.trans (hbut9.below hl7))
        clear hg9 hbut9 G158 G16 X8
        go_wp2_with (refine step_storeA wD rfl rfl rfl G169.out HNU.out (One.u8 _) rfl ?_)
        intro z0 hg0 hbut0
        have X0 := hide (X9.out.trans (hbut0.below hl68))
        have h10a : g10 ≠ g15 := by have := Q10.out.lt; omega
        have h10b : g10 ≠ g16 := by have := Q10.out.lt; omega
        have h11a : g11 ≠ g15 := by have := Q11.out.lt; omega
        have h11b : g11 ≠ g16 := by have := Q11.out.lt; omega
        have T15 := hide ((G159.out.but hbut0 h1516).on ((Below.refl _ _).drew))
        have T16 := hide ((show Blk z0 g16 45 (u8s Nq) from hg0).on ((Below.refl _ _).drew))
        have T13 := hide ((Q13.out.on X0.out).on ((Below.refl _ _).drew))
        have T10 := hide ((Q10.out.on X0.out).on ((Below.refl _ _).drew))
        have T11 := hide ((Q11.out.on X0.out).on ((Below.refl _ _).drew))
        have TB := hide ((on_below QB.out X0.out).drew)
        clear hg0 hbut0 G159 G169 X9 X0 Q13 Q10 Q11 QB hl7 hl8 hl68
        have hu := aD.und
        have HI1 : Hid ((Tryd.prog.info? 45).map (·.size) = some (u8s Oq).length) := hide (by rw [wD.size, HOU.out])
        have HI2 : Hid ((Tryd.prog.info? 45).map (·.size) = some (u8s Nq).length) := hide (by rw [wD.size, HNU.out])
        have HI3 : Hid ((Tryd.prog.info? 45).map (·.size) = some (u8s (dat xs q)).length) := hide (by rw [wD.size, HUL.out])
        have hS : ∀ v : World, Blk v g15 45 (u8s Oq) → Blk v g16 45 (u8s Nq) → Blk v g13 45 (u8s (dat xs q)) → v.rangeAt g15 0 (u8s Oq) ∧ v.rangeAt g16 0 (u8s Nq) ∧ v.rangeAt g13 0 (u8s (dat xs q)) := fun v h1 h2 h3 => ⟨h1.range 0 _ (by simp), h2.range 0 _ (by simp), h3.range 0 _ (by simp)⟩
        go_wp2_with fail
        refine wp_region_noPanic ?_
        refine wp_region_held_drew (S := fun v : World => v.rangeAt g15 0 (u8s Oq) ∧ v.rangeAt g16 0 (u8s Nq) ∧ v.rangeAt g13 0 (u8s (dat xs q))) (by kernel_rfl) (hS _ T15.out T16.out T13.out) (fun hHeld => ?_)
        refine takeH 0 56 (.agg (u8s Oq).toArray) hHeld rfl rfl (by kernel_rfl) (by kernel_rfl) (by kernel_rfl) (fun _ _ _ h => h) (yieldsIf_load_mid (by rfl) _ _ rfl g15 0 rfl _ _ (fun w h => h.1) hu rfl HI1.out) ?_
        simp only [Act.put, List.setIfInBounds_toArray, List.set_cons_zero, List.set_cons_succ]
        refine takeH 1 57 (.agg (u8s Nq).toArray) hHeld rfl rfl (by kernel_rfl) (by kernel_rfl) (by kernel_rfl) (fun _ _ _ h => h) (yieldsIf_load_mid (by rfl) _ _ rfl g16 0 rfl _ _ (fun w h => h.2.1) hu rfl HI2.out) ?_
        simp only [Act.put, List.setIfInBounds_toArray, List.set_cons_zero, List.set_cons_succ]
        refine takeH 2 58 (.agg (u8s (dat xs q)).toArray) hHeld rfl rfl (by kernel_rfl) (by kernel_rfl) (by kernel_rfl) (fun _ _ _ h => h) (yieldsIf_load_mid (by rfl) _ _ rfl g13 0 rfl _ _ (fun w h => h.2.2) hu rfl HI3.out) ?_
        simp only [Act.put, List.setIfInBounds_toArray, List.set_cons_zero, List.set_cons_succ]
        refine wpAnyH_ready (rs := [3]) (by kernel_rfl) (by simp) (AllReadyH.cons rfl (fun K hK => ?_) AllReadyH.nil)
        rw [if_pos (by rfl)]
        go_simp
        refine (nodeR_any Nq (dat xs q) _ HNL.out HNB.out HXD.out HXB.out).mono ?_
        rintro r v1 ⟨rfl, hv⟩
        have U15 := hide (T15.out.on hv)
        have U16 := hide (T16.out.on hv)
        have U13 := hide (T13.out.on hv)
        have U10 := hide (T10.out.on hv)
        have U11 := hide (T11.out.on hv)
        have UB := hide (on_below TB.out hv)
        clear hv T15 T16 T13 T10 T11 TB
        refine hK.out _ _ (hS _ U15.out U16.out U13.out) (fun hHeld => ?_)
        clear hK K
        have HNDU := hide (show (u8s (nd Nq (dat xs q))).length = 32 by rw [u8s_length, nd_length])
        refine wpAnyH_ready (rs := [4]) (by kernel_rfl) (by simp) (AllReadyH.cons rfl (fun K hK => ?_) AllReadyH.nil)
        rw [if_pos (by rfl)]
        refine wp_storeW wD rfl rfl rfl U10.out HOU.out (One.u8 _) (by rw [u8s_length, zer_length]; omega) ?_
        intro u1 hg1 hbut1
        rw [spl_same _ _ (zer_length 32) HOL.out] at hg1
        refine hK.out _ _ (hS _ (U15.out.but hbut1 h10a.symm) (U16.out.but hbut1 h10b.symm) (U13.out.but hbut1 h1310)) (fun hHeld => ?_)
        clear hK K
        simp only [Act.put]
        have GB1 := hide (U11.out.but hbut1 h1011.symm)
        refine wpAnyH_ready (rs := [5]) (by kernel_rfl) (by simp) (AllReadyH.cons rfl (fun K hK => ?_) AllReadyH.nil)
        rw [if_pos (by rfl)]
        refine wp_storeW wD rfl rfl rfl GB1.out HNDU.out (One.u8 _) (by rw [u8s_length, zer_length]; omega) ?_
        intro u2 hg2 hbut2
        rw [spl_same _ _ (zer_length 32) (nd_length _ _)] at hg2
        refine hK.out _ _ (hS _ ((U15.out.but hbut1 h10a.symm).but hbut2 h11a.symm) ((U16.out.but hbut1 h10b.symm).but hbut2 h11b.symm) ((U13.out.but hbut1 h1310).but hbut2 h1311)) (fun hHeld => ?_)
        clear hK K
        simp only [Act.put]
        refine wpAnyH_done (by kernel_rfl) ?_ _
        refine NoPanic.normal ?_
        clear hHeld
        go_wp2
        refine bodyPost_ret (results_ww rfl wD wD _ _ rfl rfl (hg1.but hbut2 h1011) hg2 HOU.out HNDU.out) rfl ⟨?_, (UB.out.trans (hbut1.below hw10)).trans (hbut2.below hw11)⟩
        rw [HLA.out, HST.out.1, HST.out.2]
      · have hlen := hvM_few hm (show b + hf n < m by omega) (show m ≤ b + hf n + (n - hf n) by omega) (by omega)
        have hpt := ptM_le m (b + hf n) (n - hf n)
        obtain ⟨e1, e2⟩ := hvM_hi hm hn hn2 (by omega) h2 h1 hc
        rw [e1, e2] at hl
        rw [e1, e2]
        have IH := hide (fun (l : Nat) (hl : l = (hvM m (b + hf n) (n - hf n)).length + ptM m (b + hf n) (n - hf n)) a cap xs w hd => ih.out (b + hf n) (n - hf n) l false a cap xs w (by omega) (by omega) (by omega) (by omega) (by simp; omega) hl hd)
        generalize hvM m (b + hf n) (n - hf n) = L at *
        generalize ptM m (b + hf n) (n - hf n) = T at *
        clear ih
        generalize hf n = k at *
        obtain ⟨q, hq⟩ : ∃ q, q = L.length + T := ⟨_, rfl⟩
        have hl1 : l = q + 1 := by rw [hl, List.length_append, hq]; simp; omega
        obtain ⟨pb, po, rfl⟩ := HS.out.place (by omega)
        have hstp := step_hi L xs (st0 T d xs) T
        rw [← hq] at hstp
        have hst0 := st0_take T L.length d xs
        rw [← hq] at hst0
        have hxl := HS.out.hlen
        replace IH := hide (fun w (hd : Ds w (some ⟨pb, po, none⟩) l cap xs) => IH.out q (by rw [hq]) (some ⟨pb, po, none⟩) cap (xs.take (32 * q)) w (Ds.take hd q (by omega)))
        rw [hst0] at IH
        have hat := d_at pb po l cap q ((l : Int) - 1) (by omega) (by omega)
        have hto := d_to pb po l cap q ((l : Int) - 1) (by omega) (by omega)
        have HUL := hide (show (u8s (dat xs q)).length = 32 by rw [u8s_length, dat_length HS.out.hlen (show q < l by omega)])
        have HXD := hide (dat_length HS.out.hlen (show q < l by omega))
        have HXB := hide (dat_isB HS.out.hbyte q)
        have hD0 := st0_length (t := T) hd hxl (show T ≤ l by omega)
        have hD1 := st0_isB (t := T) (xs := xs) hdb HS.out.hbyte
        generalize st0 T d xs = D0 at *
        have HOL := hide (fo_length (hs := L) (xs := (xs.take (32 * q)).drop (32 * T)) hD0 L.length)
        have HOB := hide (fo_isB (hs := L) (xs := (xs.take (32 * q)).drop (32 * T)) hD1 L.length)
        have HNL := hide (fu_length (hs := L) (xs := (xs.take (32 * q)).drop (32 * T)) hD0 L.length)
        have HNB := hide (fu_isB (hs := L) (xs := (xs.take (32 * q)).drop (32 * T)) hD1 L.length)
        have HLA : Hid ((L ++ [1]).length = L.length + 1) := hide (by simp)
        generalize fo L ((xs.take (32 * q)).drop (32 * T)) D0 L.length = Oq at *
        generalize fu L ((xs.take (32 * q)).drop (32 * T)) D0 L.length = Nq at *
        have HOU := hide (show (u8s Oq).length = 32 by rw [u8s_length, HOL.out])
        have HNU := hide (show (u8s Nq).length = 32 by rw [u8s_length, HNL.out])
        have HST := hide hstp
        have HL1 := hide hl1
        have hl2 : 1 ≤ l := by omega
        have hl9 : l ≤ 50 := by omega
        have hc' : ¬ (m : Int) - (b : Int) ≤ (k : Int) := by omega
        have e2 : ((n - k : Nat) : Int) = (n : Int) - (k : Int) := by omega
        have e3 : (m : Int) - ((b + k : Nat) : Int) = (m : Int) - (b : Int) - (k : Int) := by omega
        rw [e3, e2] at IH
        clear hl hq hl1 hstp hxl hst0 e1 e2 e3 hW
        go_enter Tryd.func97, Tryd.ntmps97
        go_wp2_with (refine step_box rfl rfl ?_)
        intro w1 g5 hr1 hl1 hb1
        have G5 := hide hr1
        clear hr1
        go_wp2_with (refine step_alloc zD rfl ?_)
        intro w2 g10 hr2 hl2 hb2
        have G10 := hide hr2
        have G52 := hide (G5.out.on hb2)
        have B2 := hide (hb1.trans (hb2.mono hb1.size))
        have hw10 : w.heap.size ≤ g10 := Nat.le_trans hb1.size hl2
        have h510 : g5 ≠ g10 := by have := G5.out.lt; omega
        clear hr2 hb1 hb2 G5
        go_wp2_with (refine step_alloc zD rfl ?_)
        intro w3 g11 hr3 hl3 hb3
        have G11 := hide hr3
        have G103 := hide (G10.out.on hb3)
        have G53 := hide (G52.out.on hb3)
        have h1011 : g10 ≠ g11 := by have := G10.out.lt; omega
        have h511 : g5 ≠ g11 := by have := G52.out.lt; omega
        have hw11 : w.heap.size ≤ g11 := Nat.le_trans B2.out.size hl3
        have B3 := hide (on_below B2.out hb3)
        clear hr3 hb3 G10 G52 B2
        go_wp2_with fail
        refine (HH.out _).mono ?_
        rintro r w' ⟨rfl, rfl⟩
        have HRG := hide ((HS.out.below B3.out).range q (by have := HL1.out; omega))
        go_wp2_with (first | (refine step_loadR wD rfl rfl _ HRG.out HUL.out ?_) | (refine step_alloc zD rfl ?_))
        intro w4 g13 hr4 hl4 hb4
        have G13 := hide hr4
        clear hr4
        go_wp2_with (refine step_storeA wD rfl rfl rfl G13.out HUL.out (One.u8 _) rfl ?_)
        intro w5 hg5 hbut5
        have X5 := hide (hb4.trans (hbut5.below hl4))
        have P13 := hide hg5
        have P10 := hide (G103.out.on X5.out)
        have P11 := hide (G11.out.on X5.out)
        have P5 := hide (G53.out.on X5.out)
        have PB := hide (on_below B3.out X5.out)
        have h1310 : g13 ≠ g10 := by have := G103.out.lt; omega
        have h1311 : g13 ≠ g11 := by have := G11.out.lt; omega
        clear hg5 hbut5 hb4 G13 HRG G103 G11 G53 B3 X5 hat
        go_wp2_with (refine step_loadA wD rfl rfl P5.out HLL.out ?_)
        refine (IH.out _ (HS.out.below PB.out)).mono ?_
        rintro r w6 ⟨rfl, hb6⟩
        have Q13 := hide (P13.out.on hb6)
        have Q10 := hide (P10.out.on hb6)
        have Q11 := hide (P11.out.on hb6)
        have QB := hide (on_below PB.out hb6)
        clear hb6 P13 P10 P11 P5 PB
        go_wp2_with (refine step_alloc zD rfl ?_)
        intro w7 g15 hr7 hl7 hb7
        have G15 := hide hr7
        clear hr7
        go_wp2_with (refine step_alloc zD rfl ?_)
        intro w8 g16 hr8 hl8 hb8
        have h1516 : g15 ≠ g16 := by have := G15.out.lt; omega
        have G16 := hide hr8
        have G158 := hide (G15.out.on hb8)
        have X8 := hide (on_below hb7 hb8)
        have hl68 : w6.heap.size ≤ g16 := Nat.le_trans hb7.size hl8
        clear hr8 G15 hb7 hb8
        go_wp2_with (refine step_storeA wD rfl rfl rfl G158.out HOU.out (One.u8 _) rfl ?_)
        intro w9 hg9 hbut9
        have G159 := hide hg9
        have G169 := hide (G16.out.but hbut9 h1516.symm)
        have X9 := hide (X8.out.trans (hbut9.below hl7))
        clear hg9 hbut9 G158 G16 X8
        go_wp2_with (refine step_storeA wD rfl rfl rfl G169.out HNU.out (One.u8 _) rfl ?_)
        intro z0 hg0 hbut0
        have X0 := hide (X9.out.trans (hbut0.below hl68))
        have h10a : g10 ≠ g15 := by have := Q10.out.lt; omega
        have h10b : g10 ≠ g16 := by have := Q10.out.lt; omega
        have h11a : g11 ≠ g15 := by have := Q11.out.lt; omega
        have h11b : g11 ≠ g16 := by have := Q11.out.lt; omega
        have T15 := hide ((G159.out.but hbut0 h1516).on ((Below.refl _ _).drew))
        have T16 := hide ((show Blk z0 g16 45 (u8s Nq) from hg0).on ((Below.refl _ _).drew))
        have T13 := hide ((Q13.out.on X0.out).on ((Below.refl _ _).drew))
        have T10 := hide ((Q10.out.on X0.out).on ((Below.refl _ _).drew))
        have T11 := hide ((Q11.out.on X0.out).on ((Below.refl _ _).drew))
        have TB := hide ((on_below QB.out X0.out).drew)
        clear hg0 hbut0 G159 G169 X9 X0 Q13 Q10 Q11 QB hl7 hl8 hl68
        have hu := aD.und
        have HI1 : Hid ((Tryd.prog.info? 45).map (·.size) = some (u8s Oq).length) := hide (by rw [wD.size, HOU.out])
        have HI2 : Hid ((Tryd.prog.info? 45).map (·.size) = some (u8s Nq).length) := hide (by rw [wD.size, HNU.out])
        have HI3 : Hid ((Tryd.prog.info? 45).map (·.size) = some (u8s (dat xs q)).length) := hide (by rw [wD.size, HUL.out])
        have hS : ∀ v : World, Blk v g15 45 (u8s Oq) → Blk v g16 45 (u8s Nq) → Blk v g13 45 (u8s (dat xs q)) → v.rangeAt g15 0 (u8s Oq) ∧ v.rangeAt g16 0 (u8s Nq) ∧ v.rangeAt g13 0 (u8s (dat xs q)) := fun v h1 h2 h3 => ⟨h1.range 0 _ (by simp), h2.range 0 _ (by simp), h3.range 0 _ (by simp)⟩
        go_wp2_with fail
        refine wp_region_noPanic ?_
        refine wp_region_held_drew (S := fun v : World => v.rangeAt g15 0 (u8s Oq) ∧ v.rangeAt g16 0 (u8s Nq) ∧ v.rangeAt g13 0 (u8s (dat xs q))) (by kernel_rfl) (hS _ T15.out T16.out T13.out) (fun hHeld => ?_)
        refine takeH 0 72 (.agg (u8s (dat xs q)).toArray) hHeld rfl rfl (by kernel_rfl) (by kernel_rfl) (by kernel_rfl) (fun _ _ _ h => h) (yieldsIf_load_mid (by rfl) _ _ rfl g13 0 rfl _ _ (fun w h => h.2.2) hu rfl HI3.out) ?_
        simp only [Act.put, List.setIfInBounds_toArray, List.set_cons_zero, List.set_cons_succ]
        refine takeH 1 73 (.agg (u8s Oq).toArray) hHeld rfl rfl (by kernel_rfl) (by kernel_rfl) (by kernel_rfl) (fun _ _ _ h => h) (yieldsIf_load_mid (by rfl) _ _ rfl g15 0 rfl _ _ (fun w h => h.1) hu rfl HI1.out) ?_
        simp only [Act.put, List.setIfInBounds_toArray, List.set_cons_zero, List.set_cons_succ]
        refine takeH 3 75 (.agg (u8s (dat xs q)).toArray) hHeld rfl rfl (by kernel_rfl) (by kernel_rfl) (by kernel_rfl) (fun _ _ _ h => h) (yieldsIf_load_mid (by rfl) _ _ rfl g13 0 rfl _ _ (fun w h => h.2.2) hu rfl HI3.out) ?_
        simp only [Act.put, List.setIfInBounds_toArray, List.set_cons_zero, List.set_cons_succ]
        refine takeH 4 76 (.agg (u8s Nq).toArray) hHeld rfl rfl (by kernel_rfl) (by kernel_rfl) (by kernel_rfl) (fun _ _ _ h => h) (yieldsIf_load_mid (by rfl) _ _ rfl g16 0 rfl _ _ (fun w h => h.2.1) hu rfl HI2.out) ?_
        simp only [Act.put, List.setIfInBounds_toArray, List.set_cons_zero, List.set_cons_succ]
        refine wpAnyH_ready (rs := [2]) (by kernel_rfl) (by simp) (AllReadyH.cons rfl (fun K hK => ?_) AllReadyH.nil)
        rw [if_pos (by rfl)]
        go_simp
        refine (nodeR_any (dat xs q) Oq _ HXD.out HXB.out HOL.out HOB.out).mono ?_
        rintro r v1 ⟨rfl, hv⟩
        have U15 := hide (T15.out.on hv)
        have U16 := hide (T16.out.on hv)
        have U13 := hide (T13.out.on hv)
        have U10 := hide (T10.out.on hv)
        have U11 := hide (T11.out.on hv)
        have UB := hide (on_below TB.out hv)
        clear hv T15 T16 T13 T10 T11 TB
        refine hK.out _ _ (hS _ U15.out U16.out U13.out) (fun hHeld => ?_)
        clear hK K
        refine wpAnyH_ready (rs := [5]) (by kernel_rfl) (by simp) (AllReadyH.cons rfl (fun K hK => ?_) AllReadyH.nil)
        rw [if_pos (by rfl)]
        go_simp
        refine (nodeR_any (dat xs q) Nq _ HXD.out HXB.out HNL.out HNB.out).mono ?_
        rintro r v2 ⟨rfl, hv⟩
        have Z15 := hide (U15.out.on hv)
        have Z16 := hide (U16.out.on hv)
        have Z13 := hide (U13.out.on hv)
        have Z10 := hide (U10.out.on hv)
        have Z11 := hide (U11.out.on hv)
        have ZB := hide (on_below UB.out hv)
        clear hv U15 U16 U13 U10 U11 UB
        refine hK.out _ _ (hS _ Z15.out Z16.out Z13.out) (fun hHeld => ?_)
        clear hK K
        have HND1 := hide (show (u8s (nd (dat xs q) Oq)).length = 32 by rw [u8s_length, nd_length])
        have HND2 := hide (show (u8s (nd (dat xs q) Nq)).length = 32 by rw [u8s_length, nd_length])
        refine wpAnyH_ready (rs := [6]) (by kernel_rfl) (by simp) (AllReadyH.cons rfl (fun K hK => ?_) AllReadyH.nil)
        rw [if_pos (by rfl)]
        refine wp_storeW wD rfl rfl rfl Z10.out HND1.out (One.u8 _) (by rw [u8s_length, zer_length]; omega) ?_
        intro u1 hg1 hbut1
        rw [spl_same _ _ (zer_length 32) (nd_length _ _)] at hg1
        refine hK.out _ _ (hS _ (Z15.out.but hbut1 h10a.symm) (Z16.out.but hbut1 h10b.symm) (Z13.out.but hbut1 h1310)) (fun hHeld => ?_)
        clear hK K
        simp only [Act.put]
        have GB1 := hide (Z11.out.but hbut1 h1011.symm)
        refine wpAnyH_ready (rs := [7]) (by kernel_rfl) (by simp) (AllReadyH.cons rfl (fun K hK => ?_) AllReadyH.nil)
        rw [if_pos (by rfl)]
        refine wp_storeW wD rfl rfl rfl GB1.out HND2.out (One.u8 _) (by rw [u8s_length, zer_length]; omega) ?_
        intro u2 hg2 hbut2
        rw [spl_same _ _ (zer_length 32) (nd_length _ _)] at hg2
        refine hK.out _ _ (hS _ ((Z15.out.but hbut1 h10a.symm).but hbut2 h11a.symm) ((Z16.out.but hbut1 h10b.symm).but hbut2 h11b.symm) ((Z13.out.but hbut1 h1310).but hbut2 h1311)) (fun hHeld => ?_)
        clear hK K
        simp only [Act.put]
        refine wpAnyH_done (by kernel_rfl) ?_ _
        refine NoPanic.normal ?_
        clear hHeld
        go_wp2
        refine bodyPost_ret (results_ww rfl wD wD _ _ rfl rfl (hg1.but hbut2 h1011) hg2 HND1.out HND2.out) rfl ⟨?_, (ZB.out.trans (hbut1.below hw10)).trans (hbut2.below hw11)⟩
        rw [HLA.out, HST.out.1, HST.out.2]

end Go.Proofs.YtojepbapdjkknaaDoor
