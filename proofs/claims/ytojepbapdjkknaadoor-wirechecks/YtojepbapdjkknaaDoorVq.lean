/-
  The two roots that a consistency proof leads to: the program's, where the proof is as long as it must be.
-/
import Derived.Test.YtojepbapdjkknaaDoorVo
namespace Go.Proofs.YtojepbapdjkknaaDoor
open Go.RowKit
set_option linter.unusedVariables false

set_option maxRecDepth 100000 in
set_option maxHeartbeats 4000000 in
theorem roots7_ok (d : List Int) (m n : Nat) (a : Option Addr) (l cap : Nat) (xs : List Int) (w : World) (h0 : 1 ≤ m) (h1 : m ≤ n) (h2 : n ≤ 281474976710656) (hl : l = (hvM m 0 n).length + ptM m 0 n) (hd : d.length = 32) (hdb : isB d) (hs : Ds w a l cap xs) (hk : KT w) :
    Calls Tryd.prog 77 #[.agg (u8s d).toArray, .int .i64 (m : Int), .int .i64 (n : Int), .slice a l cap] w fun r w' => r = .returned (.tuple #[.agg (u8s (fo (hvM m 0 n) (xs.drop (32 * ptM m 0 n)) (st0 (ptM m 0 n) d xs) (hvM m 0 n).length)).toArray, .agg (u8s (fu (hvM m 0 n) (xs.drop (32 * ptM m 0 n)) (st0 (ptM m 0 n) d xs) (hvM m 0 n).length)).toArray, .int .i64 0]) ∧ Below w.heap.size w w' := by
  have H := hide (fun v => toPart_ok m n v h0 h1 h2)
  have hlen := hvM_few h0 (show 0 < m by omega) (show m ≤ 0 + n by omega) h2
  have hpt := ptM_le m 0 n
  generalize hvM m 0 n = L at *
  generalize ptM m 0 n = T at *
  have HS := hide hs
  have HK := hide hk
  have HLL := hide (show (u8s d).length = 32 by rw [u8s_length, hd])
  obtain ⟨q, hq⟩ : ∃ q, L.length = q := ⟨_, rfl⟩
  have HQ := hide hq
  rw [hq] at hl hlen ⊢
  obtain ⟨pa, pc, hfr, hdr⟩ := from_any T (by omega) hs
  have hTl : T ≤ l := by omega
  have hSL := st0_length (t := T) hd hs.hlen hTl
  have hSB := st0_isB (t := T) hdb hs.hbyte
  rw [show l - T = q by omega] at hfr hdr
  have HDR := hide hdr
  have HSU := hide (show (u8s (st0 T d xs)).length = 32 by rw [u8s_length, hSL])
  have HZ := hide (show st0 T d xs = if T = 0 then d else dat xs 0 from rfl)
  have hll : (l : Int) = (q : Int) + (T : Int) := by omega
  generalize hys : xs.drop (32 * T) = ys at *
  generalize st0 T d xs = D0 at *
  have HFL := hide (fun k => fu_length (hs := L) (xs := ys) hSL k)
  have HFB := hide (fun k => fu_isB (hs := L) (xs := ys) hSB k)
  have HOL := hide (fun k => fo_length (hs := L) (xs := ys) hSL k)
  have HOB := hide (fun k => fo_isB (hs := L) (xs := ys) hSB k)
  have HLT := hide hl
  have hne : ((l : Int) != (q : Int) + (T : Int)) = false := by simp; omega
  have hl9 : l ≤ 49 := by omega
  clear hs hk hd hdb hq hdr hl hll hys
  go_enter Tryd.func77, Tryd.ntmps77
  go_wp2_with (refine step_box rfl rfl ?_)
  intro w1 g4 hr1 hl1 hb1
  have G4 := hide hr1
  clear hr1
  go_wp2_with (refine step_alloc zD rfl ?_)
  intro w2 g8 hr2 hl2 hb2
  have G8 := hide hr2
  have G42 := hide (G4.out.on hb2)
  have B2 := hide (hb1.trans (hb2.mono hb1.size))
  have hw8 : w.heap.size ≤ g8 := Nat.le_trans hb1.size hl2
  clear hr2 hb1 hb2 G4
  go_wp2_with (refine step_alloc zD rfl ?_)
  intro w3 g9 hr3 hl3 hb3
  have G9 := hide hr3
  have G83 := hide (G8.out.on hb3)
  have G43 := hide (G42.out.on hb3)
  have h89 : g8 ≠ g9 := by have := G8.out.lt; omega
  have hw9 : w.heap.size ≤ g9 := Nat.le_trans B2.out.size hl3
  have B3 := hide (on_below B2.out hb3)
  clear hr3 hb3 G8 G42 B2
  go_wp2_with fail
  refine (H.out _).mono ?_
  rintro r w4 ⟨v4, rfl, ho4, hb4⟩
  obtain ⟨a3, c3, rfl⟩ := ho4.slice
  rw [HQ.out] at ho4 ⊢
  have G84 := hide (G83.out.on hb4)
  have G94 := hide (G9.out.on hb4)
  have G44 := hide (G43.out.on hb4)
  have O4 := hide (ho4.lower B3.out.size)
  have B4 := hide (on_below B3.out hb4)
  have h38 := G83.out.lt
  have h39 := G9.out.lt
  have N8 : Hid ((Value.slice a3 q c3).ownBlock ≠ some g8) := hide fun hk => by have := (ho4.lt _ hk).1; omega
  have N9 : Hid ((Value.slice a3 q c3).ownBlock ≠ some g9) := hide fun hk => by have := (ho4.lt _ hk).1; omega
  clear hb4 ho4 G83 G9 G43 B3 h38 h39
  go_wp2_with (first | (refine step_loadA wD rfl rfl G44.out HLL.out ?_) | (refine step_storeA wD rfl rfl rfl G84.out HLL.out (One.u8 _) rfl ?_))
  intro w5 hg5 hbut5
  have G85 := hide hg5
  have G95 := hide (G94.out.but hbut5 h89.symm)
  have O5 := hide (O4.out.but hbut5 N8.out)
  have B5 := hide (B4.out.trans (hbut5.below hw8))
  clear hg5 hbut5 G84 G94 G44 O4 B4
  by_cases hT : T = 0
  · have hT' : ¬ ((T : Int) > 0) := by omega
    have HD0 : Hid (d = D0) := hide (by rw [HZ.out, if_pos hT])
    have HT := hide hT
    clear hT HZ
    go_wp2_with (first | (refine step_loadA wD rfl rfl G85.out HLL.out ?_) | (refine step_storeA wD rfl rfl rfl G95.out HLL.out (One.u8 _) rfl ?_))
    intro w6 hg6 hbut6
    have R7 : Hid (RS w w6 g8 g9 (.slice a3 q c3) L D0 D0) := hide ⟨O5.out.but hbut6 N9.out, N8.out, N9.out, by rw [← HD0.out]; exact G85.out.but hbut6 h89, by rw [← HD0.out]; exact hg6, B5.out.trans (hbut6.below hw9)⟩
    clear hg6 hbut6 G85 G95 O5 B5
    go_wp2
    go_loopw [47] (fun s wr => ∃ k : Nat, k ≤ q ∧ s = .int .i64 (k : Int) ∧ RS w wr g8 g9 (.slice a3 q c3) L (fo L ys D0 k) (fu L ys D0 k)) (fun s _ => q - (intOf s).toNat)
    case atStart => exact ⟨0, by omega, rfl, R7.out⟩
    case round =>
      obtain ⟨k, hkl, rfl, hR⟩ := hrel
      have R := hide hR
      clear hR R7
      by_cases hlt : k < q
      · have hlt' : (k : Int) < (q : Int) := by omega
        have HY := hide (HDR.out _ (HS.out.below R.out.bel))
        obtain ⟨b, o, rfl⟩ := HY.out.place (by omega)
        have hat := d_at b o q pc k (k : Int) rfl hlt
        have HDL := hide (dat_length HY.out.hlen hlt)
        have HDB := hide (dat_isB HY.out.hbyte k)
        have HUL := hide (show (u8s (dat ys k)).length = 32 by rw [u8s_length, HDL.out])
        have HRG := hide (HY.out.range k hlt)
        obtain ⟨h, hh⟩ : ∃ h, L[k]? = some h := ⟨_, List.getElem?_eq_getElem (show k < L.length by rw [HQ.out]; exact hlt)⟩
        have hg : L.getD k 0 = h := by rw [List.getD, hh]; rfl
        have HNX : Hid (fu L ys D0 (k + 1) = jn h (fu L ys D0 k) (dat ys k)) := hide (by show jn (L.getD k 0) _ _ = _; rw [hg])
        have HNF : Hid (fo L ys D0 (k + 1) = if h = 1 then nd (dat ys k) (fo L ys D0 k) else fo L ys D0 k) := hide (by show (if L.getD k 0 = 1 then _ else _) = _; rw [hg])
        obtain ⟨gH, rfl⟩ : ∃ gH, a3 = some ⟨gH, 0, none⟩ := by
          rcases R.out.own.lies with ⟨e, h0⟩ | ⟨g, c, cs, e, _⟩
          · rw [h0] at hh; cases hh
          · injection e with e1 _ _; exact ⟨g, e1⟩
        have HHH := hide hh
        have HFL2 := hide (HFL.out k)
        have HFB2 := hide (HFB.out k)
        have HOL2 := hide (HOL.out k)
        have HOB2 := hide (HOB.out k)
        have HOU2 := hide (show (u8s (fo L ys D0 k)).length = 32 by rw [u8s_length, HOL.out k])
        generalize fu L ys D0 k = Dk at *
        generalize fo L ys D0 k = Ok at *
        have hix := atH gH q c3 k (k : Int) rfl hlt
        clear hh hg HY
        go_wp2_with (first | (refine step_loadR wD rfl rfl _ HRG.out HUL.out ?_) | (refine step_alloc zD rfl ?_))
        intro w8 g14 hr8 hl8 hb8
        have G14 := hide hr8
        clear hr8
        go_wp2_with (refine step_storeA wD rfl rfl rfl G14.out HUL.out (One.u8 _) rfl ?_)
        intro w9 hg9 hbut9
        have hn14 : g9 ≠ g14 := by have := R.out.y.lt; omega
        have hm14 : g8 ≠ g14 := by have := R.out.x.lt; omega
        have B89 := hide (hb8.trans (hbut9.below hl8))
        have R9 := hide (R.out.below B89.out)
        have G99 := hide hg9
        clear hg9 hbut9 hb8 G14 R HRG hat B89
        have hcell := R9.out.own.cell k h HHH.out
        by_cases hh1 : h = 1
        · subst hh1
          have HNO : Hid (fo L ys D0 (k + 1) = nd (dat ys k) Ok) := hide (by rw [HNF.out, if_pos rfl])
          clear HNF
          go_wp2_with (first | (refine step_loadA wD rfl rfl R9.out.x HOU2.out ?_) | (refine step_loadA wD rfl rfl G99.out HUL.out ?_) | fail)
          refine (join_any 1 Ok (dat ys k) _ HOL2.out HOB2.out HDL.out HDB.out (HK.out.below R9.out.bel HK.out.lt)).mono ?_
          rintro r wa ⟨rfl, hba⟩
          have RA := hide (R9.out.below hba)
          have GA := hide (G99.out.on hba)
          have HJU := hide (show (u8s (jn 1 Ok (dat ys k))).length = 32 by rw [u8s_length, jn_length])
          clear hba R9 G99 hcell hix
          go_wp2_with (refine step_storeA wD rfl rfl rfl RA.out.x HJU.out (One.u8 _) HOU2.out ?_)
          intro wb hgb hbutb
          have RB := hide (RA.out.set8 hbutb (X' := nd (dat ys k) Ok) hgb hw8 h89)
          have GB := hide (GA.out.but hbutb hm14.symm)
          clear hgb hbutb RA GA
          go_wp2_with fail
          refine wp_region_noPanic ?_
          have R0 := hide (RB.out.below ((Below.refl _ _).drew))
          have G0 := hide (GB.out.on ((Below.refl _ _).drew))
          have hu := aD.und
          have HI1 : Hid ((Tryd.prog.info? 45).map (·.size) = some (u8s (dat ys k)).length) := hide (by rw [wD.size, HUL.out])
          have hS : ∀ v : World, OwnH v w.heap.size (.slice (some ⟨gH, 0, none⟩) q c3) L → Blk v g14 45 (u8s (dat ys k)) → v.cell? ⟨gH, k, none⟩ = some (.int .i64 1) ∧ v.rangeAt g14 0 (u8s (dat ys k)) := fun v h1 h2 => ⟨h1.cell k 1 HHH.out, h2.range 0 _ (by simp)⟩
          refine wp_region_held_drew (S := fun v : World => v.cell? ⟨gH, k, none⟩ = some (.int .i64 1) ∧ v.rangeAt g14 0 (u8s (dat ys k))) (by kernel_rfl) (hS _ R0.out.own G0.out) (fun hHeld => ?_)
          refine takeH 0 60 (.slice (some ⟨gH, 0, none⟩) q c3) hHeld rfl rfl (by kernel_rfl) (by kernel_rfl) (by kernel_rfl) (fun _ _ _ h => h) (Or.inl ⟨by rfl, fun w _ => by go_simp⟩) ?_
          simp only [Act.put, List.setIfInBounds_toArray, List.set_cons_zero, List.set_cons_succ]
          refine takeH 1 61 (.int .i64 (k : Int)) hHeld rfl rfl (by kernel_rfl) (by kernel_rfl) (by kernel_rfl) (fun _ _ _ h => h) (Or.inl ⟨by rfl, fun w _ => by go_simp⟩) ?_
          simp only [Act.put, List.setIfInBounds_toArray, List.set_cons_zero, List.set_cons_succ]
          refine takeH 2 62 (.pointer (some ⟨gH, k, none⟩)) hHeld rfl rfl (by kernel_rfl) (by kernel_rfl) (by kernel_rfl) (fun _ _ _ h => h) (Or.inl ⟨by rfl, fun w _ => run_op rfl ((atH gH q c3 k _ rfl hlt) w)⟩) ?_
          simp only [Act.put, List.setIfInBounds_toArray, List.set_cons_zero, List.set_cons_succ]
          refine takeH 3 63 (.int .i64 1) hHeld rfl rfl (by kernel_rfl) (by kernel_rfl) (by kernel_rfl) (fun _ _ _ h => h) (Or.inl ⟨by rfl, fun w hw => by have hw' : w.cell? ⟨gH, k, none⟩ = some (.int .i64 1) := (fun h => h.1) hw; go_simp⟩) ?_
          simp only [Act.put, List.setIfInBounds_toArray, List.set_cons_zero, List.set_cons_succ]
          refine takeH 5 65 (.agg (u8s (dat ys k)).toArray) hHeld rfl rfl (by kernel_rfl) (by kernel_rfl) (by kernel_rfl) (fun _ _ _ h => h) (yieldsIf_load_mid (by rfl) _ _ rfl g14 0 rfl _ _ (fun w h => h.2) hu rfl HI1.out) ?_
          simp only [Act.put, List.setIfInBounds_toArray, List.set_cons_zero, List.set_cons_succ]
          refine wpAnyH_ready (rs := [4]) (by kernel_rfl) (by simp) (AllReadyH.cons rfl (fun K hK => ?_) AllReadyH.nil)
          rw [if_pos (by rfl)]
          refine wp_loadWG wD rfl R0.out.y (by rw [u8s_length]; exact HFL2.out) ?_
          refine hK.out _ _ (hS _ R0.out.own G0.out) (fun hHeld => ?_)
          clear hK K
          simp only [Act.put]
          refine wpAnyH_ready (rs := [6]) (by kernel_rfl) (by simp) (AllReadyH.cons rfl (fun K hK => ?_) AllReadyH.nil)
          rw [if_pos (by rfl)]
          go_simp
          refine (join_any 1 Dk (dat ys k) _ HFL2.out HFB2.out HDL.out HDB.out (HK.out.below R0.out.bel HK.out.lt)).mono ?_
          rintro r v1 ⟨rfl, hv1⟩
          have R1 := hide (R0.out.below hv1)
          have G1 := hide (G0.out.on hv1)
          refine hK.out _ _ (hS _ R1.out.own G1.out) (fun hHeld => ?_)
          clear hK K
          refine wpAnyH_ready (rs := [7]) (by kernel_rfl) (by simp) (AllReadyH.cons rfl (fun K hK => ?_) AllReadyH.nil)
          rw [if_pos (by rfl)]
          refine wp_storeW wD rfl rfl rfl R1.out.y (by rw [u8s_length]; exact jn_length _ _ _) (One.u8 _) (by rw [u8s_length, HFL2.out]; omega) ?_
          intro v2 hgs hbuts
          rw [spl_same _ _ HFL2.out (jn_length _ _ _)] at hgs
          have R2 := hide (R1.out.set9 hbuts hgs hw9 h89)
          have G2 := hide (G1.out.but hbuts hn14.symm)
          refine hK.out _ _ (hS _ R2.out.own G2.out) (fun hHeld => ?_)
          clear hK K
          simp only [Act.put]
          refine wpAnyH_done (by kernel_rfl) ?_ _
          refine NoPanic.normal ?_
          clear hHeld hS hu
          go_wp2
          go_roundw
          case rel => exact ⟨k + 1, by omega, by simp, by rw [HNO.out, HNX.out]; exact R2.out⟩
          case measure => simp only [intOf]; omega
        · have hh2 : (h == 1) = false := by simp [hh1]
          have HNO : Hid (fo L ys D0 (k + 1) = Ok) := hide (by rw [HNF.out, if_neg hh1])
          clear HNF
          go_wp2_with fail
          clear hcell hix
          go_wp2_with fail
          refine wp_region_noPanic ?_
          have R0 := hide (R9.out.below ((Below.refl _ _).drew))
          have G0 := hide (G99.out.on ((Below.refl _ _).drew))
          have hu := aD.und
          have HI1 : Hid ((Tryd.prog.info? 45).map (·.size) = some (u8s (dat ys k)).length) := hide (by rw [wD.size, HUL.out])
          have hS : ∀ v : World, OwnH v w.heap.size (.slice (some ⟨gH, 0, none⟩) q c3) L → Blk v g14 45 (u8s (dat ys k)) → v.cell? ⟨gH, k, none⟩ = some (.int .i64 h) ∧ v.rangeAt g14 0 (u8s (dat ys k)) := fun v h1 h2 => ⟨h1.cell k h HHH.out, h2.range 0 _ (by simp)⟩
          refine wp_region_held_drew (S := fun v : World => v.cell? ⟨gH, k, none⟩ = some (.int .i64 h) ∧ v.rangeAt g14 0 (u8s (dat ys k))) (by kernel_rfl) (hS _ R0.out.own G0.out) (fun hHeld => ?_)
          refine takeH 0 60 (.slice (some ⟨gH, 0, none⟩) q c3) hHeld rfl rfl (by kernel_rfl) (by kernel_rfl) (by kernel_rfl) (fun _ _ _ h => h) (Or.inl ⟨by rfl, fun w _ => by go_simp⟩) ?_
          simp only [Act.put, List.setIfInBounds_toArray, List.set_cons_zero, List.set_cons_succ]
          refine takeH 1 61 (.int .i64 (k : Int)) hHeld rfl rfl (by kernel_rfl) (by kernel_rfl) (by kernel_rfl) (fun _ _ _ h => h) (Or.inl ⟨by rfl, fun w _ => by go_simp⟩) ?_
          simp only [Act.put, List.setIfInBounds_toArray, List.set_cons_zero, List.set_cons_succ]
          refine takeH 2 62 (.pointer (some ⟨gH, k, none⟩)) hHeld rfl rfl (by kernel_rfl) (by kernel_rfl) (by kernel_rfl) (fun _ _ _ h => h) (Or.inl ⟨by rfl, fun w _ => run_op rfl ((atH gH q c3 k _ rfl hlt) w)⟩) ?_
          simp only [Act.put, List.setIfInBounds_toArray, List.set_cons_zero, List.set_cons_succ]
          refine takeH 3 63 (.int .i64 h) hHeld rfl rfl (by kernel_rfl) (by kernel_rfl) (by kernel_rfl) (fun _ _ _ h => h) (Or.inl ⟨by rfl, fun w hw => by have hw' : w.cell? ⟨gH, k, none⟩ = some (.int .i64 h) := (fun h => h.1) hw; go_simp⟩) ?_
          simp only [Act.put, List.setIfInBounds_toArray, List.set_cons_zero, List.set_cons_succ]
          refine takeH 5 65 (.agg (u8s (dat ys k)).toArray) hHeld rfl rfl (by kernel_rfl) (by kernel_rfl) (by kernel_rfl) (fun _ _ _ h => h) (yieldsIf_load_mid (by rfl) _ _ rfl g14 0 rfl _ _ (fun w h => h.2) hu rfl HI1.out) ?_
          simp only [Act.put, List.setIfInBounds_toArray, List.set_cons_zero, List.set_cons_succ]
          refine wpAnyH_ready (rs := [4]) (by kernel_rfl) (by simp) (AllReadyH.cons rfl (fun K hK => ?_) AllReadyH.nil)
          rw [if_pos (by rfl)]
          refine wp_loadWG wD rfl R0.out.y (by rw [u8s_length]; exact HFL2.out) ?_
          refine hK.out _ _ (hS _ R0.out.own G0.out) (fun hHeld => ?_)
          clear hK K
          simp only [Act.put]
          refine wpAnyH_ready (rs := [6]) (by kernel_rfl) (by simp) (AllReadyH.cons rfl (fun K hK => ?_) AllReadyH.nil)
          rw [if_pos (by rfl)]
          go_simp
          refine (join_any h Dk (dat ys k) _ HFL2.out HFB2.out HDL.out HDB.out (HK.out.below R0.out.bel HK.out.lt)).mono ?_
          rintro r v1 ⟨rfl, hv1⟩
          have R1 := hide (R0.out.below hv1)
          have G1 := hide (G0.out.on hv1)
          refine hK.out _ _ (hS _ R1.out.own G1.out) (fun hHeld => ?_)
          clear hK K
          refine wpAnyH_ready (rs := [7]) (by kernel_rfl) (by simp) (AllReadyH.cons rfl (fun K hK => ?_) AllReadyH.nil)
          rw [if_pos (by rfl)]
          refine wp_storeW wD rfl rfl rfl R1.out.y (by rw [u8s_length]; exact jn_length _ _ _) (One.u8 _) (by rw [u8s_length, HFL2.out]; omega) ?_
          intro v2 hgs hbuts
          rw [spl_same _ _ HFL2.out (jn_length _ _ _)] at hgs
          have R2 := hide (R1.out.set9 hbuts hgs hw9 h89)
          have G2 := hide (G1.out.but hbuts hn14.symm)
          refine hK.out _ _ (hS _ R2.out.own G2.out) (fun hHeld => ?_)
          clear hK K
          simp only [Act.put]
          refine wpAnyH_done (by kernel_rfl) ?_ _
          refine NoPanic.normal ?_
          clear hHeld hS hu
          go_wp2
          go_roundw
          case rel => exact ⟨k + 1, by omega, by simp, by rw [HNO.out, HNX.out]; exact R2.out⟩
          case measure => simp only [intOf]; omega
      · obtain rfl : k = q := by omega
        have hlt' : ¬ ((k : Int) < (k : Int)) := by omega
        have HXU := hide (show (u8s (fo L ys D0 k)).length = 32 by rw [u8s_length, HOL.out k])
        have HYU := hide (show (u8s (fu L ys D0 k)).length = 32 by rw [u8s_length, HFL.out k])
        have HXL := hide (HOL.out k)
        have HYL := hide (HFL.out k)
        generalize hX : fo L ys D0 k = X at *
        generalize hY : fu L ys D0 k = Y at *
        have HXE := hide hX
        have HYE := hide hY
        clear hX hY
        go_wp2_with fail
        refine wp_region_noPanic ?_
        have R0 := hide (R.out.below ((Below.refl _ _).drew))
        have hu := aD.und
        have HI1 : Hid ((Tryd.prog.info? 45).map (·.size) = some (u8s X).length) := hide (by rw [wD.size, HXU.out])
        have HI2 : Hid ((Tryd.prog.info? 45).map (·.size) = some (u8s Y).length) := hide (by rw [wD.size, HYU.out])
        have hS : ∀ v : World, Blk v g8 45 (u8s X) → Blk v g9 45 (u8s Y) → v.rangeAt g8 0 (u8s X) ∧ v.rangeAt g9 0 (u8s Y) := fun v h1 h2 => ⟨h1.range 0 _ (by simp), h2.range 0 _ (by simp)⟩
        refine wp_region_held_drew (S := fun v : World => v.rangeAt g8 0 (u8s X) ∧ v.rangeAt g9 0 (u8s Y)) (by kernel_rfl) (hS _ R0.out.x R0.out.y) (fun hHeld => ?_)
        refine takeH 0 68 (.agg (u8s X).toArray) hHeld rfl rfl (by kernel_rfl) (by kernel_rfl) (by kernel_rfl) (fun _ _ _ h => h) (yieldsIf_load_mid (by rfl) _ _ rfl g8 0 rfl _ _ (fun w h => h.1) hu rfl HI1.out) ?_
        simp only [Act.put, List.setIfInBounds_toArray, List.set_cons_zero, List.set_cons_succ]
        refine takeH 1 69 (.agg (u8s Y).toArray) hHeld rfl rfl (by kernel_rfl) (by kernel_rfl) (by kernel_rfl) (fun _ _ _ h => h) (yieldsIf_load_mid (by rfl) _ _ rfl g9 0 rfl _ _ (fun w h => h.2) hu rfl HI2.out) ?_
        simp only [Act.put, List.setIfInBounds_toArray, List.set_cons_zero, List.set_cons_succ]
        refine wpAnyH_ready (rs := [2]) (by kernel_rfl) (by simp) (AllReadyH.cons rfl (fun K hK => ?_) AllReadyH.nil)
        rw [if_pos (by rfl)]
        refine wp_storeW wD rfl rfl rfl R0.out.x HXU.out (One.u8 _) (by rw [HXU.out]; omega) ?_
        intro v1 hg1 hbut1
        rw [spl_same _ _ HXL.out HXL.out] at hg1
        have R1 := hide (R0.out.set8 hbut1 hg1 hw8 h89)
        refine hK.out _ _ (hS _ R1.out.x R1.out.y) (fun hHeld => ?_)
        clear hK K
        simp only [Act.put]
        refine wpAnyH_ready (rs := [3]) (by kernel_rfl) (by simp) (AllReadyH.cons rfl (fun K hK => ?_) AllReadyH.nil)
        rw [if_pos (by rfl)]
        refine wp_storeW wD rfl rfl rfl R1.out.y HYU.out (One.u8 _) (by rw [HYU.out]; omega) ?_
        intro v2 hg2 hbut2
        rw [spl_same _ _ HYL.out HYL.out] at hg2
        have R2 := hide (R1.out.set9 hbut2 hg2 hw9 h89)
        refine hK.out _ _ (hS _ R2.out.x R2.out.y) (fun hHeld => ?_)
        clear hK K
        simp only [Act.put]
        refine takeH 4 10 (.int .i64 0) hHeld rfl rfl (by kernel_rfl) (by kernel_rfl) (by kernel_rfl) (fun _ _ _ h => h) (Or.inl ⟨by rfl, fun w _ => by go_simp⟩) ?_
        simp only [Act.put, List.setIfInBounds_toArray]
        refine wpAnyH_done (by kernel_rfl) ?_ _
        refine NoPanic.normal ?_
        clear hHeld hS hu
        go_wp2
        refine bodyPost_ret (results_wwt rfl wD wD _ _ rfl rfl R2.out.x R2.out.y HXU.out HYU.out) rfl ⟨by rw [HXE.out, HYE.out]; rfl, R2.out.bel⟩
  · have hT' : (T : Int) > 0 := by omega
    have hD0 : D0 = dat xs 0 := by rw [HZ.out, if_neg hT]
    have hl0 : 0 < l := by omega
    obtain ⟨pb, po, rfl⟩ := HS.out.place hl0
    have hat0 := d_at pb po l cap 0 0 rfl hl0
    have HRG0 := hide ((HS.out.below B5.out).range 0 hl0)
    rw [← hD0] at HRG0
    have HT := hide hT
    clear hT HZ hD0
    go_wp2_with (first | (refine step_loadR wD rfl rfl _ HRG0.out HSU.out ?_) | (refine step_storeA wD rfl rfl rfl G85.out HSU.out (One.u8 _) HLL.out ?_))
    intro w6 hg6 hbut6
    have G86 := hide hg6
    have G96 := hide (G95.out.but hbut6 h89.symm)
    have O6 := hide (O5.out.but hbut6 N8.out)
    have B6 := hide (B5.out.trans (hbut6.below hw8))
    clear hg6 hbut6 G85 G95 O5 B5 HRG0 hat0
    go_wp2_with (first | (refine step_loadA wD rfl rfl G86.out HSU.out ?_) | (refine step_storeA wD rfl rfl rfl G96.out HSU.out (One.u8 _) rfl ?_))
    intro w7 hg7 hbut7
    have R7 : Hid (RS w w7 g8 g9 (.slice a3 q c3) L D0 D0) := hide ⟨O6.out.but hbut7 N9.out, N8.out, N9.out, G86.out.but hbut7 h89, hg7, B6.out.trans (hbut7.below hw9)⟩
    clear hg7 hbut7 G86 G96 O6 B6
    go_wp2
    go_loopw [47] (fun s wr => ∃ k : Nat, k ≤ q ∧ s = .int .i64 (k : Int) ∧ RS w wr g8 g9 (.slice a3 q c3) L (fo L ys D0 k) (fu L ys D0 k)) (fun s _ => q - (intOf s).toNat)
    case atStart => exact ⟨0, by omega, rfl, R7.out⟩
    case round =>
      obtain ⟨k, hkl, rfl, hR⟩ := hrel
      have R := hide hR
      clear hR R7
      by_cases hlt : k < q
      · have hlt' : (k : Int) < (q : Int) := by omega
        have HY := hide (HDR.out _ (HS.out.below R.out.bel))
        obtain ⟨b, o, rfl⟩ := HY.out.place (by omega)
        have hat := d_at b o q pc k (k : Int) rfl hlt
        have HDL := hide (dat_length HY.out.hlen hlt)
        have HDB := hide (dat_isB HY.out.hbyte k)
        have HUL := hide (show (u8s (dat ys k)).length = 32 by rw [u8s_length, HDL.out])
        have HRG := hide (HY.out.range k hlt)
        obtain ⟨h, hh⟩ : ∃ h, L[k]? = some h := ⟨_, List.getElem?_eq_getElem (show k < L.length by rw [HQ.out]; exact hlt)⟩
        have hg : L.getD k 0 = h := by rw [List.getD, hh]; rfl
        have HNX : Hid (fu L ys D0 (k + 1) = jn h (fu L ys D0 k) (dat ys k)) := hide (by show jn (L.getD k 0) _ _ = _; rw [hg])
        have HNF : Hid (fo L ys D0 (k + 1) = if h = 1 then nd (dat ys k) (fo L ys D0 k) else fo L ys D0 k) := hide (by show (if L.getD k 0 = 1 then _ else _) = _; rw [hg])
        obtain ⟨gH, rfl⟩ : ∃ gH, a3 = some ⟨gH, 0, none⟩ := by
          rcases R.out.own.lies with ⟨e, h0⟩ | ⟨g, c, cs, e, _⟩
          · rw [h0] at hh; cases hh
          · injection e with e1 _ _; exact ⟨g, e1⟩
        have HHH := hide hh
        have HFL2 := hide (HFL.out k)
        have HFB2 := hide (HFB.out k)
        have HOL2 := hide (HOL.out k)
        have HOB2 := hide (HOB.out k)
        have HOU2 := hide (show (u8s (fo L ys D0 k)).length = 32 by rw [u8s_length, HOL.out k])
        generalize fu L ys D0 k = Dk at *
        generalize fo L ys D0 k = Ok at *
        have hix := atH gH q c3 k (k : Int) rfl hlt
        clear hh hg HY
        go_wp2_with (first | (refine step_loadR wD rfl rfl _ HRG.out HUL.out ?_) | (refine step_alloc zD rfl ?_))
        intro w8 g14 hr8 hl8 hb8
        have G14 := hide hr8
        clear hr8
        go_wp2_with (refine step_storeA wD rfl rfl rfl G14.out HUL.out (One.u8 _) rfl ?_)
        intro w9 hg9 hbut9
        have hn14 : g9 ≠ g14 := by have := R.out.y.lt; omega
        have hm14 : g8 ≠ g14 := by have := R.out.x.lt; omega
        have B89 := hide (hb8.trans (hbut9.below hl8))
        have R9 := hide (R.out.below B89.out)
        have G99 := hide hg9
        clear hg9 hbut9 hb8 G14 R HRG hat B89
        have hcell := R9.out.own.cell k h HHH.out
        by_cases hh1 : h = 1
        · subst hh1
          have HNO : Hid (fo L ys D0 (k + 1) = nd (dat ys k) Ok) := hide (by rw [HNF.out, if_pos rfl])
          clear HNF
          go_wp2_with (first | (refine step_loadA wD rfl rfl R9.out.x HOU2.out ?_) | (refine step_loadA wD rfl rfl G99.out HUL.out ?_) | fail)
          refine (join_any 1 Ok (dat ys k) _ HOL2.out HOB2.out HDL.out HDB.out (HK.out.below R9.out.bel HK.out.lt)).mono ?_
          rintro r wa ⟨rfl, hba⟩
          have RA := hide (R9.out.below hba)
          have GA := hide (G99.out.on hba)
          have HJU := hide (show (u8s (jn 1 Ok (dat ys k))).length = 32 by rw [u8s_length, jn_length])
          clear hba R9 G99 hcell hix
          go_wp2_with (refine step_storeA wD rfl rfl rfl RA.out.x HJU.out (One.u8 _) HOU2.out ?_)
          intro wb hgb hbutb
          have RB := hide (RA.out.set8 hbutb (X' := nd (dat ys k) Ok) hgb hw8 h89)
          have GB := hide (GA.out.but hbutb hm14.symm)
          clear hgb hbutb RA GA
          go_wp2_with fail
          refine wp_region_noPanic ?_
          have R0 := hide (RB.out.below ((Below.refl _ _).drew))
          have G0 := hide (GB.out.on ((Below.refl _ _).drew))
          have hu := aD.und
          have HI1 : Hid ((Tryd.prog.info? 45).map (·.size) = some (u8s (dat ys k)).length) := hide (by rw [wD.size, HUL.out])
          have hS : ∀ v : World, OwnH v w.heap.size (.slice (some ⟨gH, 0, none⟩) q c3) L → Blk v g14 45 (u8s (dat ys k)) → v.cell? ⟨gH, k, none⟩ = some (.int .i64 1) ∧ v.rangeAt g14 0 (u8s (dat ys k)) := fun v h1 h2 => ⟨h1.cell k 1 HHH.out, h2.range 0 _ (by simp)⟩
          refine wp_region_held_drew (S := fun v : World => v.cell? ⟨gH, k, none⟩ = some (.int .i64 1) ∧ v.rangeAt g14 0 (u8s (dat ys k))) (by kernel_rfl) (hS _ R0.out.own G0.out) (fun hHeld => ?_)
          refine takeH 0 60 (.slice (some ⟨gH, 0, none⟩) q c3) hHeld rfl rfl (by kernel_rfl) (by kernel_rfl) (by kernel_rfl) (fun _ _ _ h => h) (Or.inl ⟨by rfl, fun w _ => by go_simp⟩) ?_
          simp only [Act.put, List.setIfInBounds_toArray, List.set_cons_zero, List.set_cons_succ]
          refine takeH 1 61 (.int .i64 (k : Int)) hHeld rfl rfl (by kernel_rfl) (by kernel_rfl) (by kernel_rfl) (fun _ _ _ h => h) (Or.inl ⟨by rfl, fun w _ => by go_simp⟩) ?_
          simp only [Act.put, List.setIfInBounds_toArray, List.set_cons_zero, List.set_cons_succ]
          refine takeH 2 62 (.pointer (some ⟨gH, k, none⟩)) hHeld rfl rfl (by kernel_rfl) (by kernel_rfl) (by kernel_rfl) (fun _ _ _ h => h) (Or.inl ⟨by rfl, fun w _ => run_op rfl ((atH gH q c3 k _ rfl hlt) w)⟩) ?_
          simp only [Act.put, List.setIfInBounds_toArray, List.set_cons_zero, List.set_cons_succ]
          refine takeH 3 63 (.int .i64 1) hHeld rfl rfl (by kernel_rfl) (by kernel_rfl) (by kernel_rfl) (fun _ _ _ h => h) (Or.inl ⟨by rfl, fun w hw => by have hw' : w.cell? ⟨gH, k, none⟩ = some (.int .i64 1) := (fun h => h.1) hw; go_simp⟩) ?_
          simp only [Act.put, List.setIfInBounds_toArray, List.set_cons_zero, List.set_cons_succ]
          refine takeH 5 65 (.agg (u8s (dat ys k)).toArray) hHeld rfl rfl (by kernel_rfl) (by kernel_rfl) (by kernel_rfl) (fun _ _ _ h => h) (yieldsIf_load_mid (by rfl) _ _ rfl g14 0 rfl _ _ (fun w h => h.2) hu rfl HI1.out) ?_
          simp only [Act.put, List.setIfInBounds_toArray, List.set_cons_zero, List.set_cons_succ]
          refine wpAnyH_ready (rs := [4]) (by kernel_rfl) (by simp) (AllReadyH.cons rfl (fun K hK => ?_) AllReadyH.nil)
          rw [if_pos (by rfl)]
          refine wp_loadWG wD rfl R0.out.y (by rw [u8s_length]; exact HFL2.out) ?_
          refine hK.out _ _ (hS _ R0.out.own G0.out) (fun hHeld => ?_)
          clear hK K
          simp only [Act.put]
          refine wpAnyH_ready (rs := [6]) (by kernel_rfl) (by simp) (AllReadyH.cons rfl (fun K hK => ?_) AllReadyH.nil)
          rw [if_pos (by rfl)]
          go_simp
          refine (join_any 1 Dk (dat ys k) _ HFL2.out HFB2.out HDL.out HDB.out (HK.out.below R0.out.bel HK.out.lt)).mono ?_
          rintro r v1 ⟨rfl, hv1⟩
          have R1 := hide (R0.out.below hv1)
          have G1 := hide (G0.out.on hv1)
          refine hK.out _ _ (hS _ R1.out.own G1.out) (fun hHeld => ?_)
          clear hK K
          refine wpAnyH_ready (rs := [7]) (by kernel_rfl) (by simp) (AllReadyH.cons rfl (fun K hK => ?_) AllReadyH.nil)
          rw [if_pos (by rfl)]
          refine wp_storeW wD rfl rfl rfl R1.out.y (by rw [u8s_length]; exact jn_length _ _ _) (One.u8 _) (by rw [u8s_length, HFL2.out]; omega) ?_
          intro v2 hgs hbuts
          rw [spl_same _ _ HFL2.out (jn_length _ _ _)] at hgs
          have R2 := hide (R1.out.set9 hbuts hgs hw9 h89)
          have G2 := hide (G1.out.but hbuts hn14.symm)
          refine hK.out _ _ (hS _ R2.out.own G2.out) (fun hHeld => ?_)
          clear hK K
          simp only [Act.put]
          refine wpAnyH_done (by kernel_rfl) ?_ _
          refine NoPanic.normal ?_
          clear hHeld hS hu
          go_wp2
          go_roundw
          case rel => exact ⟨k + 1, by omega, by simp, by rw [HNO.out, HNX.out]; exact R2.out⟩
          case measure => simp only [intOf]; omega
        · have hh2 : (h == 1) = false := by simp [hh1]
          have HNO : Hid (fo L ys D0 (k + 1) = Ok) := hide (by rw [HNF.out, if_neg hh1])
          clear HNF
          go_wp2_with fail
          clear hcell hix
          go_wp2_with fail
          refine wp_region_noPanic ?_
          have R0 := hide (R9.out.below ((Below.refl _ _).drew))
          have G0 := hide (G99.out.on ((Below.refl _ _).drew))
          have hu := aD.und
          have HI1 : Hid ((Tryd.prog.info? 45).map (·.size) = some (u8s (dat ys k)).length) := hide (by rw [wD.size, HUL.out])
          have hS : ∀ v : World, OwnH v w.heap.size (.slice (some ⟨gH, 0, none⟩) q c3) L → Blk v g14 45 (u8s (dat ys k)) → v.cell? ⟨gH, k, none⟩ = some (.int .i64 h) ∧ v.rangeAt g14 0 (u8s (dat ys k)) := fun v h1 h2 => ⟨h1.cell k h HHH.out, h2.range 0 _ (by simp)⟩
          refine wp_region_held_drew (S := fun v : World => v.cell? ⟨gH, k, none⟩ = some (.int .i64 h) ∧ v.rangeAt g14 0 (u8s (dat ys k))) (by kernel_rfl) (hS _ R0.out.own G0.out) (fun hHeld => ?_)
          refine takeH 0 60 (.slice (some ⟨gH, 0, none⟩) q c3) hHeld rfl rfl (by kernel_rfl) (by kernel_rfl) (by kernel_rfl) (fun _ _ _ h => h) (Or.inl ⟨by rfl, fun w _ => by go_simp⟩) ?_
          simp only [Act.put, List.setIfInBounds_toArray, List.set_cons_zero, List.set_cons_succ]
          refine takeH 1 61 (.int .i64 (k : Int)) hHeld rfl rfl (by kernel_rfl) (by kernel_rfl) (by kernel_rfl) (fun _ _ _ h => h) (Or.inl ⟨by rfl, fun w _ => by go_simp⟩) ?_
          simp only [Act.put, List.setIfInBounds_toArray, List.set_cons_zero, List.set_cons_succ]
          refine takeH 2 62 (.pointer (some ⟨gH, k, none⟩)) hHeld rfl rfl (by kernel_rfl) (by kernel_rfl) (by kernel_rfl) (fun _ _ _ h => h) (Or.inl ⟨by rfl, fun w _ => run_op rfl ((atH gH q c3 k _ rfl hlt) w)⟩) ?_
          simp only [Act.put, List.setIfInBounds_toArray, List.set_cons_zero, List.set_cons_succ]
          refine takeH 3 63 (.int .i64 h) hHeld rfl rfl (by kernel_rfl) (by kernel_rfl) (by kernel_rfl) (fun _ _ _ h => h) (Or.inl ⟨by rfl, fun w hw => by have hw' : w.cell? ⟨gH, k, none⟩ = some (.int .i64 h) := (fun h => h.1) hw; go_simp⟩) ?_
          simp only [Act.put, List.setIfInBounds_toArray, List.set_cons_zero, List.set_cons_succ]
          refine takeH 5 65 (.agg (u8s (dat ys k)).toArray) hHeld rfl rfl (by kernel_rfl) (by kernel_rfl) (by kernel_rfl) (fun _ _ _ h => h) (yieldsIf_load_mid (by rfl) _ _ rfl g14 0 rfl _ _ (fun w h => h.2) hu rfl HI1.out) ?_
          simp only [Act.put, List.setIfInBounds_toArray, List.set_cons_zero, List.set_cons_succ]
          refine wpAnyH_ready (rs := [4]) (by kernel_rfl) (by simp) (AllReadyH.cons rfl (fun K hK => ?_) AllReadyH.nil)
          rw [if_pos (by rfl)]
          refine wp_loadWG wD rfl R0.out.y (by rw [u8s_length]; exact HFL2.out) ?_
          refine hK.out _ _ (hS _ R0.out.own G0.out) (fun hHeld => ?_)
          clear hK K
          simp only [Act.put]
          refine wpAnyH_ready (rs := [6]) (by kernel_rfl) (by simp) (AllReadyH.cons rfl (fun K hK => ?_) AllReadyH.nil)
          rw [if_pos (by rfl)]
          go_simp
          refine (join_any h Dk (dat ys k) _ HFL2.out HFB2.out HDL.out HDB.out (HK.out.below R0.out.bel HK.out.lt)).mono ?_
          rintro r v1 ⟨rfl, hv1⟩
          have R1 := hide (R0.out.below hv1)
          have G1 := hide (G0.out.on hv1)
          refine hK.out _ _ (hS _ R1.out.own G1.out) (fun hHeld => ?_)
          clear hK K
          refine wpAnyH_ready (rs := [7]) (by kernel_rfl) (by simp) (AllReadyH.cons rfl (fun K hK => ?_) AllReadyH.nil)
          rw [if_pos (by rfl)]
          refine wp_storeW wD rfl rfl rfl R1.out.y (by rw [u8s_length]; exact jn_length _ _ _) (One.u8 _) (by rw [u8s_length, HFL2.out]; omega) ?_
          intro v2 hgs hbuts
          rw [spl_same _ _ HFL2.out (jn_length _ _ _)] at hgs
          have R2 := hide (R1.out.set9 hbuts hgs hw9 h89)
          have G2 := hide (G1.out.but hbuts hn14.symm)
          refine hK.out _ _ (hS _ R2.out.own G2.out) (fun hHeld => ?_)
          clear hK K
          simp only [Act.put]
          refine wpAnyH_done (by kernel_rfl) ?_ _
          refine NoPanic.normal ?_
          clear hHeld hS hu
          go_wp2
          go_roundw
          case rel => exact ⟨k + 1, by omega, by simp, by rw [HNO.out, HNX.out]; exact R2.out⟩
          case measure => simp only [intOf]; omega
      · obtain rfl : k = q := by omega
        have hlt' : ¬ ((k : Int) < (k : Int)) := by omega
        have HXU := hide (show (u8s (fo L ys D0 k)).length = 32 by rw [u8s_length, HOL.out k])
        have HYU := hide (show (u8s (fu L ys D0 k)).length = 32 by rw [u8s_length, HFL.out k])
        have HXL := hide (HOL.out k)
        have HYL := hide (HFL.out k)
        generalize hX : fo L ys D0 k = X at *
        generalize hY : fu L ys D0 k = Y at *
        have HXE := hide hX
        have HYE := hide hY
        clear hX hY
        go_wp2_with fail
        refine wp_region_noPanic ?_
        have R0 := hide (R.out.below ((Below.refl _ _).drew))
        have hu := aD.und
        have HI1 : Hid ((Tryd.prog.info? 45).map (·.size) = some (u8s X).length) := hide (by rw [wD.size, HXU.out])
        have HI2 : Hid ((Tryd.prog.info? 45).map (·.size) = some (u8s Y).length) := hide (by rw [wD.size, HYU.out])
        have hS : ∀ v : World, Blk v g8 45 (u8s X) → Blk v g9 45 (u8s Y) → v.rangeAt g8 0 (u8s X) ∧ v.rangeAt g9 0 (u8s Y) := fun v h1 h2 => ⟨h1.range 0 _ (by simp), h2.range 0 _ (by simp)⟩
        refine wp_region_held_drew (S := fun v : World => v.rangeAt g8 0 (u8s X) ∧ v.rangeAt g9 0 (u8s Y)) (by kernel_rfl) (hS _ R0.out.x R0.out.y) (fun hHeld => ?_)
        refine takeH 0 68 (.agg (u8s X).toArray) hHeld rfl rfl (by kernel_rfl) (by kernel_rfl) (by kernel_rfl) (fun _ _ _ h => h) (yieldsIf_load_mid (by rfl) _ _ rfl g8 0 rfl _ _ (fun w h => h.1) hu rfl HI1.out) ?_
        simp only [Act.put, List.setIfInBounds_toArray, List.set_cons_zero, List.set_cons_succ]
        refine takeH 1 69 (.agg (u8s Y).toArray) hHeld rfl rfl (by kernel_rfl) (by kernel_rfl) (by kernel_rfl) (fun _ _ _ h => h) (yieldsIf_load_mid (by rfl) _ _ rfl g9 0 rfl _ _ (fun w h => h.2) hu rfl HI2.out) ?_
        simp only [Act.put, List.setIfInBounds_toArray, List.set_cons_zero, List.set_cons_succ]
        refine wpAnyH_ready (rs := [2]) (by kernel_rfl) (by simp) (AllReadyH.cons rfl (fun K hK => ?_) AllReadyH.nil)
        rw [if_pos (by rfl)]
        refine wp_storeW wD rfl rfl rfl R0.out.x HXU.out (One.u8 _) (by rw [HXU.out]; omega) ?_
        intro v1 hg1 hbut1
        rw [spl_same _ _ HXL.out HXL.out] at hg1
        have R1 := hide (R0.out.set8 hbut1 hg1 hw8 h89)
        refine hK.out _ _ (hS _ R1.out.x R1.out.y) (fun hHeld => ?_)
        clear hK K
        simp only [Act.put]
        refine wpAnyH_ready (rs := [3]) (by kernel_rfl) (by simp) (AllReadyH.cons rfl (fun K hK => ?_) AllReadyH.nil)
        rw [if_pos (by rfl)]
        refine wp_storeW wD rfl rfl rfl R1.out.y HYU.out (One.u8 _) (by rw [HYU.out]; omega) ?_
        intro v2 hg2 hbut2
        rw [spl_same _ _ HYL.out HYL.out] at hg2
        have R2 := hide (R1.out.set9 hbut2 hg2 hw9 h89)
        refine hK.out _ _ (hS _ R2.out.x R2.out.y) (fun hHeld => ?_)
        clear hK K
        simp only [Act.put]
        refine takeH 4 10 (.int .i64 0) hHeld rfl rfl (by kernel_rfl) (by kernel_rfl) (by kernel_rfl) (fun _ _ _ h => h) (Or.inl ⟨by rfl, fun w _ => by go_simp⟩) ?_
        simp only [Act.put, List.setIfInBounds_toArray]
        refine wpAnyH_done (by kernel_rfl) ?_ _
        refine NoPanic.normal ?_
        clear hHeld hS hu
        go_wp2
        refine bodyPost_ret (results_wwt rfl wD wD _ _ rfl rfl R2.out.x R2.out.y HXU.out HYU.out) rfl ⟨by rw [HXE.out, HYE.out]; rfl, R2.out.bel⟩

end Go.Proofs.YtojepbapdjkknaaDoor
