/-
  The walk of DigestsPlays.
-/
import Derived.Test.YtabpfbankinojaaDpy
namespace Go.Proofs.Ytabpfbankinojaa
open Go.RowKit Go.Shelf
set_option linter.unusedVariables false
set_option linter.unusedSimpArgs false
set_option maxRecDepth 100000

theorem Dx.nil (w : World) : Dx w (.slice none 0 0) (.slice none 0 0) (allE []) (lens []) :=
  ⟨⟨rfl, none, 0, rfl, Nat.le_refl _, fun h => absurd rfl h⟩, ⟨rfl, none, 0, rfl, Nat.le_refl _, fun h => absurd rfl h⟩⟩
set_option maxHeartbeats 4000000 in
theorem dplays_walk (a : Option Addr) (len cap : Nat) (acts : Nat → Ac6) (dk : List Int) (w : World) (hs : Ats w a len cap acts) (hc : cap ≤ 2932031007317) (hl : dk.length = 32) (hb : isB dk) :
    Calls Try.prog 3 #[.slice a len cap, .agg (u8s dk).toArray] w fun e w' => e = .returned (.bool true) ∧ Below w.heap.size w w' := by
  have HS := hide hs
  have HL := hide hl
  have HB := hide hb
  have hlc := hs.hcap
  clear hs hl hb
  go_enter Try.func3, Try.ntmps3
  go_wp2_with (refine step_box (cs := u8s dk) rfl rfl ?_)
  intro w1 g3 hg3 hle3 hb1
  have G3 := hide hg3
  have B1 := hide hb1
  clear hg3 hb1 hle3
  go_wp2_with fail
  refine (new_any w1).mono ?_
  rintro e w2 ⟨g, rfl, hix, hg, hb2⟩
  have HIX := hide hix
  have HG := hide (Nat.le_trans B1.out.size hg)
  have G32 := hide (G3.out.on hb2)
  have B2 := hide (on_below B1.out hb2)
  clear hix hg hb2 G3 B1
  go_wp2_with (refine step_alloc zX rfl ?_)
  intro w3 g6 hg6 hle6 hb3
  have HP : Hid (PY w w3 g g3 g6 (.slice none 0 0) [] [] (.slice none 0 0) (.slice none 0 0) [] dk) := hide ⟨HIX.out.on hb3, Dx.nil _, G32.out.on hb3, hg6, on_below B2.out hb3, HG.out, Nat.le_trans B2.out.size hle6⟩
  clear hg6 hle6 hb3 B2 G32 HIX HG
  go_wp2_with (first | refine step_loadA wX rfl rfl HP.out.c6 rfl ?_ | refine step_loadA wideD rfl rfl HP.out.c3 (by rw [u8s_length, HL.out]) ?_)
  refine (stands_any g (.slice none 0 0) [] [] (.slice none 0 0) (.slice none 0 0) dk w3 HP.out.ix HP.out.dx HL.out HB.out (by decide)).mono ?_
  rintro e w4 ⟨rfl, hb4⟩
  have HP4 := hide (HP.out.on hb4)
  clear hb4 HP
  go_wp2_with fail
  go_loopw [5, 7, 8, 9] (fun s5 s7 s8 s9 wr => ∃ (i g : Nat) (v : Value) (us : List Value) (rs : List (List Ent)) (iv rv : Value), i ≤ len ∧ cnt rs ≤ i ∧ s5 = .pointer (some ⟨g, 0, none⟩) ∧ s7 = .int .i64 i ∧ Hid (PY w wr g g3 g6 v us rs iv rv rs dk)) (fun _ s7 _ _ _ => len - (intOf s7).toNat)
  case atStart => exact ⟨0, g, _, _, _, _, _, Nat.zero_le _, Nat.le_refl _, rfl, rfl, HP4⟩
  case round =>
    clear HP4
    obtain ⟨i, ga, v, us, rs, iv, rv, hi, hcn, rfl, rfl, HP⟩ := hrel
    by_cases hlt : i < len
    · have hlt' : (i : Int) < (len : Int) := by omega
      obtain ⟨b, o, rfl, hrg⟩ := HS.out.hcell i hlt
      obtain ⟨hdl, hdb, hwq⟩ := HS.out.good i hlt
      have hix := fun W => a_at b o len cap i (i : Int) rfl hlt W
      have HIX := hide hix
      obtain ⟨x, hxd, hxp⟩ : ∃ x : Ent, x.d = (acts i).d ∧ x.p = (acts i).q := ⟨⟨(acts i).d, (acts i).q, hdl, hdb⟩, rfl, rfl⟩
      have HAT : Hid (∀ V : World, Below w.heap.size w V → V.rangeAt b (o + i * 34) (acts i).cells) := hide fun V hV => by
        obtain ⟨b', o', e, h⟩ := (HS.out.below hV).hcell i hlt
        injection e with e
        injection e with e1 e2
        subst e1 e2
        exact h
      have HRG : Hid (∀ V : World, Below w.heap.size w V → V.rangeAt b (o + i * 34) (u8s x.d)) := hide fun V hV => by rw [hxd]; exact act_d (HAT.out V hV) hdl
      have HCQ : Hid (∀ V : World, Below w.heap.size w V → V.cell? ⟨b, o + i * 34 + 32, none⟩ = some (.int .i64 x.p)) := hide fun V hV => by rw [hxp]; exact act_q (HAT.out V hV) hdl
      have HCB : Hid (∀ V : World, Below w.heap.size w V → V.cell? ⟨b, o + i * 34 + 33, none⟩ = some (.bool (acts i).b)) := hide fun V hV => act_b (HAT.out V hV) hdl
      have hu := aDd.und
      have HX1 : Hid ((Try.prog.info? 24).map (·.size) = some (u8s x.d).length) := hide (by rw [wideD.size, u8s_length, x.hl])
      have HX2 : Hid ((Try.prog.info? 24).map (·.size) = some (u8s dk).length) := hide (by rw [wideD.size, u8s_length, HL.out])
      have hnc : cnt rs < 4398046511104 := by omega
      clear hxd hxp hdl hdb hwq hrg HAT
      have cb := HCB.out _ HP.out.bel
      cases hbb : (acts i).b with
      | false =>
        rw [hbb] at cb
        clear hbb HCB
        have HAE := hide (fun V (h : IxA V ga v us rs) => add_all ga v us rs x V h hnc)
        obtain ⟨kk, hkk⟩ : ∃ kk, kA rs x = kk := ⟨_, rfl⟩
        obtain ⟨rs2, hrs2⟩ : ∃ r2, rA rs x = r2 := ⟨_, rfl⟩
        have hcn2 : cnt rs2 ≤ cnt rs + 1 := by rw [← hrs2]; exact rA_cnt rs x
        have HDE := hide (fun iv rv V (h : Dx V iv rv (allE rs) (lens rs)) => addD_all iv rv rs x V h HP.out.ix.ok (by omega))
        rw [hkk, hrs2] at HAE HDE
        clear hkk hrs2
        go_upto_region 10 with fail
        refine wp_region_noPanic ?_
        have BD := hide (OnlyB.of_below (g := ga) (Below.refl wr.heap.size wr).drew)
        have HVB : Hid (∀ V : World, OnlyB ga wr V → Below w.heap.size w V) := hide fun V hV => HP.out.bel.trans (hV.below HP.out.lg HP.out.bel.size)
        refine wp_region_held_drew (S := fun V : World => OnlyB ga wr V) (by kernel_rfl) BD.out (fun hHeld => ?_)
        refine takeH 0 33 (.pointer (some ⟨ga, 0, none⟩)) hHeld rfl rfl (by kernel_rfl) (by kernel_rfl) (by kernel_rfl) (fun _ _ _ h => h) (Or.inl ⟨by rfl, fun w _ => by go_simp⟩) ?_
        simp only [Act.put, List.setIfInBounds_toArray, List.set_cons_zero, List.set_cons_succ]
        refine takeH 1 34 (.slice (some ⟨b, o, none⟩) len cap) hHeld rfl rfl (by kernel_rfl) (by kernel_rfl) (by kernel_rfl) (fun _ _ _ h => h) (Or.inl ⟨by rfl, fun w _ => by go_simp⟩) ?_
        simp only [Act.put, List.setIfInBounds_toArray, List.set_cons_zero, List.set_cons_succ]
        refine takeH 2 35 (.int .i64 (i : Int)) hHeld rfl rfl (by kernel_rfl) (by kernel_rfl) (by kernel_rfl) (fun _ _ _ h => h) (Or.inl ⟨by rfl, fun w _ => by go_simp⟩) ?_
        simp only [Act.put, List.setIfInBounds_toArray, List.set_cons_zero, List.set_cons_succ]
        refine takeH 3 36 (.pointer (some ⟨b, o + i * 34, none⟩)) hHeld rfl rfl (by kernel_rfl) (by kernel_rfl) (by kernel_rfl) (fun _ _ _ h => h) (Or.inl ⟨by rfl, fun w _ => run_op rfl (HIX.out w)⟩) ?_
        simp only [Act.put, List.setIfInBounds_toArray, List.set_cons_zero, List.set_cons_succ]
        refine takeH 4 37 (.pointer (some ⟨b, o + i * 34, none⟩)) hHeld rfl rfl (by kernel_rfl) (by kernel_rfl) (by kernel_rfl) (fun _ _ _ h => h) (Or.inl ⟨by rfl, fun w _ => by go_simp⟩) ?_
        simp only [Act.put, List.setIfInBounds_toArray, List.set_cons_zero, List.set_cons_succ]
        refine takeH 5 38 (.agg (u8s x.d).toArray) hHeld rfl rfl (by kernel_rfl) (by kernel_rfl) (by kernel_rfl) (fun _ _ _ h => h) (yieldsIf_load_mid (by rfl) _ _ rfl b (o + i * 34) rfl _ _ (fun V h => HRG.out V (HVB.out V h)) hu rfl HX1.out) ?_
        simp only [Act.put, List.setIfInBounds_toArray, List.set_cons_zero, List.set_cons_succ]
        refine takeH 6 39 (.slice (some ⟨b, o, none⟩) len cap) hHeld rfl rfl (by kernel_rfl) (by kernel_rfl) (by kernel_rfl) (fun _ _ _ h => h) (Or.inl ⟨by rfl, fun w _ => by go_simp⟩) ?_
        simp only [Act.put, List.setIfInBounds_toArray, List.set_cons_zero, List.set_cons_succ]
        refine takeH 7 40 (.int .i64 (i : Int)) hHeld rfl rfl (by kernel_rfl) (by kernel_rfl) (by kernel_rfl) (fun _ _ _ h => h) (Or.inl ⟨by rfl, fun w _ => by go_simp⟩) ?_
        simp only [Act.put, List.setIfInBounds_toArray, List.set_cons_zero, List.set_cons_succ]
        refine takeH 8 41 (.pointer (some ⟨b, o + i * 34, none⟩)) hHeld rfl rfl (by kernel_rfl) (by kernel_rfl) (by kernel_rfl) (fun _ _ _ h => h) (Or.inl ⟨by rfl, fun w _ => run_op rfl (HIX.out w)⟩) ?_
        simp only [Act.put, List.setIfInBounds_toArray, List.set_cons_zero, List.set_cons_succ]
        refine takeH 9 42 (.pointer (some ⟨b, o + i * 34 + 32, none⟩)) hHeld rfl rfl (by kernel_rfl) (by kernel_rfl) (by kernel_rfl) (fun _ _ _ h => h) (Or.inl ⟨by rfl, fun w _ => by go_simp⟩) ?_
        simp only [Act.put, List.setIfInBounds_toArray, List.set_cons_zero, List.set_cons_succ]
        refine takeH 10 43 (.int .i64 x.p) hHeld rfl rfl (by kernel_rfl) (by kernel_rfl) (by kernel_rfl) (fun _ _ _ h => h) (Or.inl ⟨by rfl, fun w hw => by have hw' : w.cell? ⟨b, (o + i * 34 + 32), none⟩ = some (.int .i64 x.p) := (fun hw => HCQ.out _ (HVB.out _ hw)) hw; go_simp⟩) ?_
        simp only [Act.put, List.setIfInBounds_toArray, List.set_cons_zero, List.set_cons_succ]
        refine wpAnyH_ready (rs := [11]) (by kernel_rfl) (by simp) (AllReadyH.cons rfl (fun K hK => ?_) AllReadyH.nil)
        rw [if_pos (by rfl)]
        go_simp
        refine (HAE.out _ (HP.out.on (Below.refl wr.heap.size wr).drew).ix).mono ?_
        rintro e w4 ⟨v2, us2, rfl, hob, hia2⟩
        have hhold := BD.out.trans hob
        have HP4 := hide (HP.out.addP hhold hia2)
        refine hK.out _ _ (hhold) (fun hHeld => ?_)
        clear hK K
        try simp only [Act.put, List.setIfInBounds_toArray, List.set_cons_zero, List.set_cons_succ]
        refine takeH 12 8 (.int .i64 kk) hHeld rfl rfl (by kernel_rfl) (by kernel_rfl) (by kernel_rfl) (fun _ _ _ h => h) (Or.inl ⟨by rfl, fun w _ => by go_simp⟩) ?_
        simp only [Act.put, List.setIfInBounds_toArray, List.set_cons_zero, List.set_cons_succ]
        refine wpAnyH_done (by kernel_rfl) ?_ _
        refine NoPanic.normal ?_
        clear hHeld hhold hob hia2 HAE HVB BD HP
        go_upto_region 12 with fail
        have huX := Try.underlying30
        have HXX : Hid ((Try.prog.info? 30).map (·.size) = some [iv, rv].length) := hide (by rw [wX.size]; rfl)
        have HC6 : Hid (∀ V : World, Below w4.heap.size w4 V → V.rangeAt g6 0 [iv, rv]) := hide fun V hV => ((HP4.out.on hV).c6).range 0 _ (by rw [List.drop_zero, List.take_length])
        have HVB2 : Hid (∀ V : World, Below w4.heap.size w4 V → Below w.heap.size w V) := hide fun V hV => on_below HP4.out.bel hV
        refine wp_region_noPanic ?_
        refine wp_region_U (q := 15) (S := fun z : World => Below w4.heap.size w4 z) (by kernel_rfl) ?_
        have Z0 := hide ((Below.refl w4.heap.size w4).drew)
        have hHeld := Z0.out
        refine takeU 15 0 46 (.agg #[iv, rv]) hHeld rfl rfl (by kernel_rfl) (by kernel_rfl) (by kernel_rfl) (by kernel_rfl) (by kernel_rfl) (by kernel_rfl) (fun _ _ _ h => h) (yieldsIf_load_mid (by rfl) _ _ rfl g6 0 rfl _ _ (fun V h => HC6.out V h) huX rfl HXX.out) ?_
        simp only [Act.put, List.setIfInBounds_toArray, List.set_cons_zero, List.set_cons_succ]
        refine takeU 15 1 47 (.slice (some ⟨b, o, none⟩) len cap) hHeld rfl rfl (by kernel_rfl) (by kernel_rfl) (by kernel_rfl) (by kernel_rfl) (by kernel_rfl) (by kernel_rfl) (fun _ _ _ h => h) (Or.inl ⟨by rfl, fun w _ => by go_simp⟩) ?_
        simp only [Act.put, List.setIfInBounds_toArray, List.set_cons_zero, List.set_cons_succ]
        refine takeU 15 2 48 (.int .i64 (i : Int)) hHeld rfl rfl (by kernel_rfl) (by kernel_rfl) (by kernel_rfl) (by kernel_rfl) (by kernel_rfl) (by kernel_rfl) (fun _ _ _ h => h) (Or.inl ⟨by rfl, fun w _ => by go_simp⟩) ?_
        simp only [Act.put, List.setIfInBounds_toArray, List.set_cons_zero, List.set_cons_succ]
        refine takeU 15 3 49 (.pointer (some ⟨b, o + i * 34, none⟩)) hHeld rfl rfl (by kernel_rfl) (by kernel_rfl) (by kernel_rfl) (by kernel_rfl) (by kernel_rfl) (by kernel_rfl) (fun _ _ _ h => h) (Or.inl ⟨by rfl, fun w _ => run_op rfl (HIX.out w)⟩) ?_
        simp only [Act.put, List.setIfInBounds_toArray, List.set_cons_zero, List.set_cons_succ]
        refine takeU 15 4 50 (.pointer (some ⟨b, o + i * 34, none⟩)) hHeld rfl rfl (by kernel_rfl) (by kernel_rfl) (by kernel_rfl) (by kernel_rfl) (by kernel_rfl) (by kernel_rfl) (fun _ _ _ h => h) (Or.inl ⟨by rfl, fun w _ => by go_simp⟩) ?_
        simp only [Act.put, List.setIfInBounds_toArray, List.set_cons_zero, List.set_cons_succ]
        refine takeU 15 5 51 (.agg (u8s x.d).toArray) hHeld rfl rfl (by kernel_rfl) (by kernel_rfl) (by kernel_rfl) (by kernel_rfl) (by kernel_rfl) (by kernel_rfl) (fun _ _ _ h => h) (yieldsIf_load_mid (by rfl) _ _ rfl b (o + i * 34) rfl _ _ (fun V h => HRG.out V (HVB2.out V h)) hu rfl HX1.out) ?_
        simp only [Act.put, List.setIfInBounds_toArray, List.set_cons_zero, List.set_cons_succ]
        refine takeU 15 6 52 (.slice (some ⟨b, o, none⟩) len cap) hHeld rfl rfl (by kernel_rfl) (by kernel_rfl) (by kernel_rfl) (by kernel_rfl) (by kernel_rfl) (by kernel_rfl) (fun _ _ _ h => h) (Or.inl ⟨by rfl, fun w _ => by go_simp⟩) ?_
        simp only [Act.put, List.setIfInBounds_toArray, List.set_cons_zero, List.set_cons_succ]
        refine takeU 15 7 53 (.int .i64 (i : Int)) hHeld rfl rfl (by kernel_rfl) (by kernel_rfl) (by kernel_rfl) (by kernel_rfl) (by kernel_rfl) (by kernel_rfl) (fun _ _ _ h => h) (Or.inl ⟨by rfl, fun w _ => by go_simp⟩) ?_
        simp only [Act.put, List.setIfInBounds_toArray, List.set_cons_zero, List.set_cons_succ]
        refine takeU 15 8 54 (.pointer (some ⟨b, o + i * 34, none⟩)) hHeld rfl rfl (by kernel_rfl) (by kernel_rfl) (by kernel_rfl) (by kernel_rfl) (by kernel_rfl) (by kernel_rfl) (fun _ _ _ h => h) (Or.inl ⟨by rfl, fun w _ => run_op rfl (HIX.out w)⟩) ?_
        simp only [Act.put, List.setIfInBounds_toArray, List.set_cons_zero, List.set_cons_succ]
        refine takeU 15 9 55 (.pointer (some ⟨b, o + i * 34 + 32, none⟩)) hHeld rfl rfl (by kernel_rfl) (by kernel_rfl) (by kernel_rfl) (by kernel_rfl) (by kernel_rfl) (by kernel_rfl) (fun _ _ _ h => h) (Or.inl ⟨by rfl, fun w _ => by go_simp⟩) ?_
        simp only [Act.put, List.setIfInBounds_toArray, List.set_cons_zero, List.set_cons_succ]
        refine takeU 15 10 56 (.int .i64 x.p) hHeld rfl rfl (by kernel_rfl) (by kernel_rfl) (by kernel_rfl) (by kernel_rfl) (by kernel_rfl) (by kernel_rfl) (fun _ _ _ h => h) (Or.inl ⟨by rfl, fun w hw => by have hw' : w.cell? ⟨b, (o + i * 34 + 32), none⟩ = some (.int .i64 x.p) := (fun hw => HCQ.out _ (HVB2.out _ hw)) hw; go_simp⟩) ?_
        simp only [Act.put, List.setIfInBounds_toArray, List.set_cons_zero, List.set_cons_succ]
        refine wpAnyU_ready (rs := [11]) (by kernel_rfl) (by simp) (AllReadyU.cons rfl (fun K hK => ?_) AllReadyU.nil)
        rw [if_pos (by rfl)]
        go_simp
        refine (HDE.out iv rv _ (HP4.out.on Z0.out).dx).mono ?_
        rintro e w5 ⟨iv2, rv2, rfl, hdx, hb5⟩
        have Z5 := hide (on_below Z0.out hb5)
        have HDX5 := hide hdx
        clear hdx hb5
        refine hK.out _ _ (fun _ => Z5.out) ?_
        have hHeld := Z5.out
        clear hK K
        try simp only [Act.put, List.setIfInBounds_toArray, List.set_cons_zero, List.set_cons_succ]
        refine takeU 15 12 45 (.tuple #[.agg #[iv2, rv2], .int .i64 kk]) hHeld rfl rfl (by kernel_rfl) (by kernel_rfl) (by kernel_rfl) (by kernel_rfl) (by kernel_rfl) (by kernel_rfl) (fun _ _ _ h => h) (Or.inl ⟨by rfl, fun w _ => by go_simp⟩) ?_
        simp only [Act.put, List.setIfInBounds_toArray, List.set_cons_zero, List.set_cons_succ]
        refine takeU 15 13 58 (.agg #[iv2, rv2]) hHeld rfl rfl (by kernel_rfl) (by kernel_rfl) (by kernel_rfl) (by kernel_rfl) (by kernel_rfl) (by kernel_rfl) (fun _ _ _ h => h) (Or.inl ⟨by rfl, fun w _ => by go_simp⟩) ?_
        simp only [Act.put, List.setIfInBounds_toArray, List.set_cons_zero, List.set_cons_succ]
        refine wpAnyU_ready (rs := [14, 15]) (by kernel_rfl) (by simp) (AllReadyU.cons rfl (fun K hK => ?_) (AllReadyU.cons rfl (fun K hK => ?_) AllReadyU.nil))
        · rw [if_pos (by rfl)]
          go_simp
          refine hK.out _ _ (fun _ => Z5.out) ?_
          have hHeld := Z5.out
          clear hK K
          try simp only [Act.put, List.setIfInBounds_toArray, List.set_cons_zero, List.set_cons_succ]
          refine wpAnyU_ready (rs := [15]) (by kernel_rfl) (by simp) (AllReadyU.cons rfl (fun K hK => ?_) AllReadyU.nil)
          rw [if_pos (by rfl)]
          refine wp_storeW wX rfl (vs := [iv2, rv2]) rfl rfl (HP4.out.on Z5.out).c6 rfl HDX5.out.one (by simp) ?_
          intro w6 hg6 hbut
          have HP6 := hide ((HP4.out.on Z5.out).store hbut (by simpa [spl] using hg6) HDX5.out)
          refine hK.out _ _ (fun h => absurd h (by decide)) ?_
          clear hK K
          clear hg6 hbut
          try simp only [Act.put, List.setIfInBounds_toArray, List.set_cons_zero, List.set_cons_succ]
          refine wpAnyU_ready (rs := [16]) (by kernel_rfl) (by simp) (AllReadyU.cons rfl (fun K hK => ?_) AllReadyU.nil)
          rw [if_pos (by rfl)]
          go_simp
          refine hK.out _ _ (fun h => absurd h (by decide)) ?_
          clear hK K
          refine wpAnyU_done (by kernel_rfl) ?_ _
          refine NoPanic.normal ?_
          clear hHeld Z0 Z5 HC6 HVB2 HXX HDX5 HDE HP4
          go_upto_region 13 with fail
          have HXX : Hid ((Try.prog.info? 30).map (·.size) = some [iv2, rv2].length) := hide (by rw [wX.size]; rfl)
          have HC6 : Hid (∀ V : World, Below w6.heap.size w6 V → V.rangeAt g6 0 [iv2, rv2]) := hide fun V hV => ((HP6.out.on hV).c6).range 0 _ (by rw [List.drop_zero, List.take_length])
          have HC3 : Hid (∀ V : World, Below w6.heap.size w6 V → V.rangeAt g3 0 (u8s dk)) := hide fun V hV => ((HP6.out.on hV).c3).range 0 _ (by rw [List.drop_zero, List.take_length])
          have HVB2 : Hid (∀ V : World, Below w6.heap.size w6 V → Below w.heap.size w V) := hide fun V hV => on_below HP6.out.bel hV
          refine wp_region_noPanic ?_
          have BD := hide (Below.refl w6.heap.size w6).drew
          refine wp_region_held_drew (S := fun V : World => Below w6.heap.size w6 V) (by kernel_rfl) BD.out (fun hHeld => ?_)
          refine takeH 0 60 (.int .i64 kk) hHeld rfl rfl (by kernel_rfl) (by kernel_rfl) (by kernel_rfl) (fun _ _ _ h => h) (Or.inl ⟨by rfl, fun w _ => by go_simp⟩) ?_
          simp only [Act.put, List.setIfInBounds_toArray, List.set_cons_zero, List.set_cons_succ]
          refine takeH 1 61 (.int .i64 kk) hHeld rfl rfl (by kernel_rfl) (by kernel_rfl) (by kernel_rfl) (fun _ _ _ h => h) (Or.inl ⟨by rfl, fun w _ => by go_simp⟩) ?_
          simp only [Act.put, List.setIfInBounds_toArray, List.set_cons_zero, List.set_cons_succ]
          refine takeH 2 62 (.bool false) hHeld rfl rfl (by kernel_rfl) (by kernel_rfl) (by kernel_rfl) (fun _ _ _ h => h) (Or.inl ⟨by rfl, fun w _ => by go_simp⟩) ?_
          simp only [Act.put, List.setIfInBounds_toArray, List.set_cons_zero, List.set_cons_succ]
          refine takeH 3 63 (.bool false) hHeld rfl rfl (by kernel_rfl) (by kernel_rfl) (by kernel_rfl) (fun _ _ _ h => h) (Or.inl ⟨by rfl, fun w _ => by go_simp⟩) ?_
          simp only [Act.put, List.setIfInBounds_toArray, List.set_cons_zero, List.set_cons_succ]
          refine takeH 4 64 (.pointer (some ⟨ga, 0, none⟩)) hHeld rfl rfl (by kernel_rfl) (by kernel_rfl) (by kernel_rfl) (fun _ _ _ h => h) (Or.inl ⟨by rfl, fun w _ => by go_simp⟩) ?_
          simp only [Act.put, List.setIfInBounds_toArray, List.set_cons_zero, List.set_cons_succ]
          refine takeH 5 65 (.agg #[iv2, rv2]) hHeld rfl rfl (by kernel_rfl) (by kernel_rfl) (by kernel_rfl) (fun _ _ _ h => h) (yieldsIf_load_mid (by rfl) _ _ rfl g6 0 rfl _ _ (fun V h => HC6.out V h) huX rfl HXX.out) ?_
          simp only [Act.put, List.setIfInBounds_toArray, List.set_cons_zero, List.set_cons_succ]
          refine takeH 6 66 (.agg (u8s dk).toArray) hHeld rfl rfl (by kernel_rfl) (by kernel_rfl) (by kernel_rfl) (fun _ _ _ h => h) (yieldsIf_load_mid (by rfl) _ _ rfl g3 0 rfl _ _ (fun V h => HC3.out V h) hu rfl HX2.out) ?_
          simp only [Act.put, List.setIfInBounds_toArray, List.set_cons_zero, List.set_cons_succ]
          refine wpAnyH_ready (rs := [7]) (by kernel_rfl) (by simp) (AllReadyH.cons rfl (fun K hK => ?_) AllReadyH.nil)
          rw [if_pos (by rfl)]
          go_simp
          refine (stands_any ga v2 us2 rs2 iv2 rv2 dk _ (HP6.out.on BD.out).ix (HP6.out.on BD.out).dx HL.out HB.out (by omega)).mono ?_
          rintro e w7 ⟨rfl, hb7⟩
          have BD7 := hide (on_below BD.out hb7)
          clear hb7
          refine hK.out _ _ (BD7.out) (fun hHeld => ?_)
          clear hK K
          try simp only [Act.put, List.setIfInBounds_toArray, List.set_cons_zero, List.set_cons_succ]
          refine takeH 8 68 (.bool false) hHeld rfl rfl (by kernel_rfl) (by kernel_rfl) (by kernel_rfl) (fun _ _ _ h => h) (Or.inl ⟨by rfl, fun w _ => by go_simp⟩) ?_
          simp only [Act.put, List.setIfInBounds_toArray, List.set_cons_zero, List.set_cons_succ]
          refine takeH 9 69 (.bool false) hHeld rfl rfl (by kernel_rfl) (by kernel_rfl) (by kernel_rfl) (fun _ _ _ h => h) (Or.inl ⟨by rfl, fun w _ => by go_simp⟩) ?_
          simp only [Act.put, List.setIfInBounds_toArray, List.set_cons_zero, List.set_cons_succ]
          refine takeH 10 70 (.bool false) hHeld rfl rfl (by kernel_rfl) (by kernel_rfl) (by kernel_rfl) (fun _ _ _ h => h) (Or.inl ⟨by rfl, fun w _ => by go_simp⟩) ?_
          simp only [Act.put, List.setIfInBounds_toArray, List.set_cons_zero, List.set_cons_succ]
          refine takeH 11 71 (.pointer (some ⟨ga, 0, none⟩)) hHeld rfl rfl (by kernel_rfl) (by kernel_rfl) (by kernel_rfl) (fun _ _ _ h => h) (Or.inl ⟨by rfl, fun w _ => by go_simp⟩) ?_
          simp only [Act.put, List.setIfInBounds_toArray, List.set_cons_zero, List.set_cons_succ]
          refine takeH 12 72 (.agg #[iv2, rv2]) hHeld rfl rfl (by kernel_rfl) (by kernel_rfl) (by kernel_rfl) (fun _ _ _ h => h) (yieldsIf_load_mid (by rfl) _ _ rfl g6 0 rfl _ _ (fun V h => HC6.out V h) huX rfl HXX.out) ?_
          simp only [Act.put, List.setIfInBounds_toArray, List.set_cons_zero, List.set_cons_succ]
          refine takeH 13 73 (.slice (some ⟨b, o, none⟩) len cap) hHeld rfl rfl (by kernel_rfl) (by kernel_rfl) (by kernel_rfl) (fun _ _ _ h => h) (Or.inl ⟨by rfl, fun w _ => by go_simp⟩) ?_
          simp only [Act.put, List.setIfInBounds_toArray, List.set_cons_zero, List.set_cons_succ]
          refine takeH 14 74 (.int .i64 (i : Int)) hHeld rfl rfl (by kernel_rfl) (by kernel_rfl) (by kernel_rfl) (fun _ _ _ h => h) (Or.inl ⟨by rfl, fun w _ => by go_simp⟩) ?_
          simp only [Act.put, List.setIfInBounds_toArray, List.set_cons_zero, List.set_cons_succ]
          refine takeH 15 75 (.pointer (some ⟨b, o + i * 34, none⟩)) hHeld rfl rfl (by kernel_rfl) (by kernel_rfl) (by kernel_rfl) (fun _ _ _ h => h) (Or.inl ⟨by rfl, fun w _ => run_op rfl (HIX.out w)⟩) ?_
          simp only [Act.put, List.setIfInBounds_toArray, List.set_cons_zero, List.set_cons_succ]
          refine takeH 16 76 (.pointer (some ⟨b, o + i * 34, none⟩)) hHeld rfl rfl (by kernel_rfl) (by kernel_rfl) (by kernel_rfl) (fun _ _ _ h => h) (Or.inl ⟨by rfl, fun w _ => by go_simp⟩) ?_
          simp only [Act.put, List.setIfInBounds_toArray, List.set_cons_zero, List.set_cons_succ]
          refine takeH 17 77 (.agg (u8s x.d).toArray) hHeld rfl rfl (by kernel_rfl) (by kernel_rfl) (by kernel_rfl) (fun _ _ _ h => h) (yieldsIf_load_mid (by rfl) _ _ rfl b (o + i * 34) rfl _ _ (fun V h => HRG.out V (HVB2.out V h)) hu rfl HX1.out) ?_
          simp only [Act.put, List.setIfInBounds_toArray, List.set_cons_zero, List.set_cons_succ]
          refine wpAnyH_ready (rs := [18]) (by kernel_rfl) (by simp) (AllReadyH.cons rfl (fun K hK => ?_) AllReadyH.nil)
          rw [if_pos (by rfl)]
          go_simp
          refine (stands_any ga v2 us2 rs2 iv2 rv2 x.d _ (HP6.out.on BD7.out).ix (HP6.out.on BD7.out).dx x.hl x.hb (by omega)).mono ?_
          rintro e w8 ⟨rfl, hb8⟩
          have BD8 := hide (on_below BD7.out hb8)
          clear hb8
          refine hK.out _ _ (BD8.out) (fun hHeld => ?_)
          clear hK K
          try simp only [Act.put, List.setIfInBounds_toArray, List.set_cons_zero, List.set_cons_succ]
          refine takeH 19 79 (.bool false) hHeld rfl rfl (by kernel_rfl) (by kernel_rfl) (by kernel_rfl) (fun _ _ _ h => h) (Or.inl ⟨by rfl, fun w _ => by go_simp⟩) ?_
          simp only [Act.put, List.setIfInBounds_toArray, List.set_cons_zero, List.set_cons_succ]
          refine takeH 20 80 (.bool false) hHeld rfl rfl (by kernel_rfl) (by kernel_rfl) (by kernel_rfl) (fun _ _ _ h => h) (Or.inl ⟨by rfl, fun w _ => by go_simp⟩) ?_
          simp only [Act.put, List.setIfInBounds_toArray, List.set_cons_zero, List.set_cons_succ]
          refine wpAnyH_done (by kernel_rfl) ?_ _
          refine NoPanic.normal ?_
          have HP8 := hide (HP6.out.on BD8.out)
          clear hHeld BD BD7 BD8 HC6 HC3 HVB2 HXX HP6
          go_wp2
          exact ⟨⟨i + 1, ga, v2, us2, rs2, iv2, rv2, by omega, by omega, rfl, by go_num, HP8⟩, by simp [intOf]; omega⟩
        · rw [if_pos (by rfl)]
          refine wp_storeW wX rfl (vs := [iv2, rv2]) rfl rfl (HP4.out.on Z5.out).c6 rfl HDX5.out.one (by simp) ?_
          intro w6 hg6 hbut
          have HP6 := hide ((HP4.out.on Z5.out).store hbut (by simpa [spl] using hg6) HDX5.out)
          refine hK.out _ _ (fun h => absurd h (by decide)) ?_
          clear hK K
          clear hg6 hbut
          try simp only [Act.put, List.setIfInBounds_toArray, List.set_cons_zero, List.set_cons_succ]
          refine wpAnyU_ready (rs := [14]) (by kernel_rfl) (by simp) (AllReadyU.cons rfl (fun K hK => ?_) AllReadyU.nil)
          rw [if_pos (by rfl)]
          go_simp
          refine hK.out _ _ (fun h => absurd h (by decide)) ?_
          clear hK K
          try simp only [Act.put, List.setIfInBounds_toArray, List.set_cons_zero, List.set_cons_succ]
          refine wpAnyU_ready (rs := [16]) (by kernel_rfl) (by simp) (AllReadyU.cons rfl (fun K hK => ?_) AllReadyU.nil)
          rw [if_pos (by rfl)]
          go_simp
          refine hK.out _ _ (fun h => absurd h (by decide)) ?_
          clear hK K
          refine wpAnyU_done (by kernel_rfl) ?_ _
          refine NoPanic.normal ?_
          clear hHeld Z0 Z5 HC6 HVB2 HXX HDX5 HDE HP4
          go_upto_region 13 with fail
          have HXX : Hid ((Try.prog.info? 30).map (·.size) = some [iv2, rv2].length) := hide (by rw [wX.size]; rfl)
          have HC6 : Hid (∀ V : World, Below w6.heap.size w6 V → V.rangeAt g6 0 [iv2, rv2]) := hide fun V hV => ((HP6.out.on hV).c6).range 0 _ (by rw [List.drop_zero, List.take_length])
          have HC3 : Hid (∀ V : World, Below w6.heap.size w6 V → V.rangeAt g3 0 (u8s dk)) := hide fun V hV => ((HP6.out.on hV).c3).range 0 _ (by rw [List.drop_zero, List.take_length])
          have HVB2 : Hid (∀ V : World, Below w6.heap.size w6 V → Below w.heap.size w V) := hide fun V hV => on_below HP6.out.bel hV
          refine wp_region_noPanic ?_
          have BD := hide (Below.refl w6.heap.size w6).drew
          refine wp_region_held_drew (S := fun V : World => Below w6.heap.size w6 V) (by kernel_rfl) BD.out (fun hHeld => ?_)
          refine takeH 0 60 (.int .i64 kk) hHeld rfl rfl (by kernel_rfl) (by kernel_rfl) (by kernel_rfl) (fun _ _ _ h => h) (Or.inl ⟨by rfl, fun w _ => by go_simp⟩) ?_
          simp only [Act.put, List.setIfInBounds_toArray, List.set_cons_zero, List.set_cons_succ]
          refine takeH 1 61 (.int .i64 kk) hHeld rfl rfl (by kernel_rfl) (by kernel_rfl) (by kernel_rfl) (fun _ _ _ h => h) (Or.inl ⟨by rfl, fun w _ => by go_simp⟩) ?_
          simp only [Act.put, List.setIfInBounds_toArray, List.set_cons_zero, List.set_cons_succ]
          refine takeH 2 62 (.bool false) hHeld rfl rfl (by kernel_rfl) (by kernel_rfl) (by kernel_rfl) (fun _ _ _ h => h) (Or.inl ⟨by rfl, fun w _ => by go_simp⟩) ?_
          simp only [Act.put, List.setIfInBounds_toArray, List.set_cons_zero, List.set_cons_succ]
          refine takeH 3 63 (.bool false) hHeld rfl rfl (by kernel_rfl) (by kernel_rfl) (by kernel_rfl) (fun _ _ _ h => h) (Or.inl ⟨by rfl, fun w _ => by go_simp⟩) ?_
          simp only [Act.put, List.setIfInBounds_toArray, List.set_cons_zero, List.set_cons_succ]
          refine takeH 4 64 (.pointer (some ⟨ga, 0, none⟩)) hHeld rfl rfl (by kernel_rfl) (by kernel_rfl) (by kernel_rfl) (fun _ _ _ h => h) (Or.inl ⟨by rfl, fun w _ => by go_simp⟩) ?_
          simp only [Act.put, List.setIfInBounds_toArray, List.set_cons_zero, List.set_cons_succ]
          refine takeH 5 65 (.agg #[iv2, rv2]) hHeld rfl rfl (by kernel_rfl) (by kernel_rfl) (by kernel_rfl) (fun _ _ _ h => h) (yieldsIf_load_mid (by rfl) _ _ rfl g6 0 rfl _ _ (fun V h => HC6.out V h) huX rfl HXX.out) ?_
          simp only [Act.put, List.setIfInBounds_toArray, List.set_cons_zero, List.set_cons_succ]
          refine takeH 6 66 (.agg (u8s dk).toArray) hHeld rfl rfl (by kernel_rfl) (by kernel_rfl) (by kernel_rfl) (fun _ _ _ h => h) (yieldsIf_load_mid (by rfl) _ _ rfl g3 0 rfl _ _ (fun V h => HC3.out V h) hu rfl HX2.out) ?_
          simp only [Act.put, List.setIfInBounds_toArray, List.set_cons_zero, List.set_cons_succ]
          refine wpAnyH_ready (rs := [7]) (by kernel_rfl) (by simp) (AllReadyH.cons rfl (fun K hK => ?_) AllReadyH.nil)
          rw [if_pos (by rfl)]
          go_simp
          refine (stands_any ga v2 us2 rs2 iv2 rv2 dk _ (HP6.out.on BD.out).ix (HP6.out.on BD.out).dx HL.out HB.out (by omega)).mono ?_
          rintro e w7 ⟨rfl, hb7⟩
          have BD7 := hide (on_below BD.out hb7)
          clear hb7
          refine hK.out _ _ (BD7.out) (fun hHeld => ?_)
          clear hK K
          try simp only [Act.put, List.setIfInBounds_toArray, List.set_cons_zero, List.set_cons_succ]
          refine takeH 8 68 (.bool false) hHeld rfl rfl (by kernel_rfl) (by kernel_rfl) (by kernel_rfl) (fun _ _ _ h => h) (Or.inl ⟨by rfl, fun w _ => by go_simp⟩) ?_
          simp only [Act.put, List.setIfInBounds_toArray, List.set_cons_zero, List.set_cons_succ]
          refine takeH 9 69 (.bool false) hHeld rfl rfl (by kernel_rfl) (by kernel_rfl) (by kernel_rfl) (fun _ _ _ h => h) (Or.inl ⟨by rfl, fun w _ => by go_simp⟩) ?_
          simp only [Act.put, List.setIfInBounds_toArray, List.set_cons_zero, List.set_cons_succ]
          refine takeH 10 70 (.bool false) hHeld rfl rfl (by kernel_rfl) (by kernel_rfl) (by kernel_rfl) (fun _ _ _ h => h) (Or.inl ⟨by rfl, fun w _ => by go_simp⟩) ?_
          simp only [Act.put, List.setIfInBounds_toArray, List.set_cons_zero, List.set_cons_succ]
          refine takeH 11 71 (.pointer (some ⟨ga, 0, none⟩)) hHeld rfl rfl (by kernel_rfl) (by kernel_rfl) (by kernel_rfl) (fun _ _ _ h => h) (Or.inl ⟨by rfl, fun w _ => by go_simp⟩) ?_
          simp only [Act.put, List.setIfInBounds_toArray, List.set_cons_zero, List.set_cons_succ]
          refine takeH 12 72 (.agg #[iv2, rv2]) hHeld rfl rfl (by kernel_rfl) (by kernel_rfl) (by kernel_rfl) (fun _ _ _ h => h) (yieldsIf_load_mid (by rfl) _ _ rfl g6 0 rfl _ _ (fun V h => HC6.out V h) huX rfl HXX.out) ?_
          simp only [Act.put, List.setIfInBounds_toArray, List.set_cons_zero, List.set_cons_succ]
          refine takeH 13 73 (.slice (some ⟨b, o, none⟩) len cap) hHeld rfl rfl (by kernel_rfl) (by kernel_rfl) (by kernel_rfl) (fun _ _ _ h => h) (Or.inl ⟨by rfl, fun w _ => by go_simp⟩) ?_
          simp only [Act.put, List.setIfInBounds_toArray, List.set_cons_zero, List.set_cons_succ]
          refine takeH 14 74 (.int .i64 (i : Int)) hHeld rfl rfl (by kernel_rfl) (by kernel_rfl) (by kernel_rfl) (fun _ _ _ h => h) (Or.inl ⟨by rfl, fun w _ => by go_simp⟩) ?_
          simp only [Act.put, List.setIfInBounds_toArray, List.set_cons_zero, List.set_cons_succ]
          refine takeH 15 75 (.pointer (some ⟨b, o + i * 34, none⟩)) hHeld rfl rfl (by kernel_rfl) (by kernel_rfl) (by kernel_rfl) (fun _ _ _ h => h) (Or.inl ⟨by rfl, fun w _ => run_op rfl (HIX.out w)⟩) ?_
          simp only [Act.put, List.setIfInBounds_toArray, List.set_cons_zero, List.set_cons_succ]
          refine takeH 16 76 (.pointer (some ⟨b, o + i * 34, none⟩)) hHeld rfl rfl (by kernel_rfl) (by kernel_rfl) (by kernel_rfl) (fun _ _ _ h => h) (Or.inl ⟨by rfl, fun w _ => by go_simp⟩) ?_
          simp only [Act.put, List.setIfInBounds_toArray, List.set_cons_zero, List.set_cons_succ]
          refine takeH 17 77 (.agg (u8s x.d).toArray) hHeld rfl rfl (by kernel_rfl) (by kernel_rfl) (by kernel_rfl) (fun _ _ _ h => h) (yieldsIf_load_mid (by rfl) _ _ rfl b (o + i * 34) rfl _ _ (fun V h => HRG.out V (HVB2.out V h)) hu rfl HX1.out) ?_
          simp only [Act.put, List.setIfInBounds_toArray, List.set_cons_zero, List.set_cons_succ]
          refine wpAnyH_ready (rs := [18]) (by kernel_rfl) (by simp) (AllReadyH.cons rfl (fun K hK => ?_) AllReadyH.nil)
          rw [if_pos (by rfl)]
          go_simp
          refine (stands_any ga v2 us2 rs2 iv2 rv2 x.d _ (HP6.out.on BD7.out).ix (HP6.out.on BD7.out).dx x.hl x.hb (by omega)).mono ?_
          rintro e w8 ⟨rfl, hb8⟩
          have BD8 := hide (on_below BD7.out hb8)
          clear hb8
          refine hK.out _ _ (BD8.out) (fun hHeld => ?_)
          clear hK K
          try simp only [Act.put, List.setIfInBounds_toArray, List.set_cons_zero, List.set_cons_succ]
          refine takeH 19 79 (.bool false) hHeld rfl rfl (by kernel_rfl) (by kernel_rfl) (by kernel_rfl) (fun _ _ _ h => h) (Or.inl ⟨by rfl, fun w _ => by go_simp⟩) ?_
          simp only [Act.put, List.setIfInBounds_toArray, List.set_cons_zero, List.set_cons_succ]
          refine takeH 20 80 (.bool false) hHeld rfl rfl (by kernel_rfl) (by kernel_rfl) (by kernel_rfl) (fun _ _ _ h => h) (Or.inl ⟨by rfl, fun w _ => by go_simp⟩) ?_
          simp only [Act.put, List.setIfInBounds_toArray, List.set_cons_zero, List.set_cons_succ]
          refine wpAnyH_done (by kernel_rfl) ?_ _
          refine NoPanic.normal ?_
          have HP8 := hide (HP6.out.on BD8.out)
          clear hHeld BD BD7 BD8 HC6 HC3 HVB2 HXX HP6
          go_wp2
          exact ⟨⟨i + 1, ga, v2, us2, rs2, iv2, rv2, by omega, by omega, rfl, by go_num, HP8⟩, by simp [intOf]; omega⟩
      | true =>
        rw [hbb] at cb
        clear hbb HCB
        go_wp2_with fail
        refine (cloneI_any ga v us rs wr HP.out.ix).mono ?_
        rintro e wc ⟨gc, rfl, hic, hgc, hbc⟩
        have HPC := hide (HP.out.clone hbc hic hgc)
        clear hic hgc hbc HP cb
        have HAE := hide (fun V (h : IxA V gc v us rs) => add_all gc v us rs x V h hnc)
        obtain ⟨kk, hkk⟩ : ∃ kk, kA rs x = kk := ⟨_, rfl⟩
        obtain ⟨rs2, hrs2⟩ : ∃ r2, rA rs x = r2 := ⟨_, rfl⟩
        have hcn2 : cnt rs2 ≤ cnt rs + 1 := by rw [← hrs2]; exact rA_cnt rs x
        have HDE := hide (fun iv rv V (h : Dx V iv rv (allE rs) (lens rs)) => addD_all iv rv rs x V h HPC.out.ix.ok (by omega))
        rw [hkk, hrs2] at HAE HDE
        clear hkk hrs2
        go_upto_region 10 with fail
        refine wp_region_noPanic ?_
        have BD := hide (OnlyB.of_below (g := gc) (Below.refl wc.heap.size wc).drew)
        have HVB : Hid (∀ V : World, OnlyB gc wc V → Below w.heap.size w V) := hide fun V hV => HPC.out.bel.trans (hV.below HPC.out.lg HPC.out.bel.size)
        refine wp_region_held_drew (S := fun V : World => OnlyB gc wc V) (by kernel_rfl) BD.out (fun hHeld => ?_)
        refine takeH 0 33 (.pointer (some ⟨gc, 0, none⟩)) hHeld rfl rfl (by kernel_rfl) (by kernel_rfl) (by kernel_rfl) (fun _ _ _ h => h) (Or.inl ⟨by rfl, fun w _ => by go_simp⟩) ?_
        simp only [Act.put, List.setIfInBounds_toArray, List.set_cons_zero, List.set_cons_succ]
        refine takeH 1 34 (.slice (some ⟨b, o, none⟩) len cap) hHeld rfl rfl (by kernel_rfl) (by kernel_rfl) (by kernel_rfl) (fun _ _ _ h => h) (Or.inl ⟨by rfl, fun w _ => by go_simp⟩) ?_
        simp only [Act.put, List.setIfInBounds_toArray, List.set_cons_zero, List.set_cons_succ]
        refine takeH 2 35 (.int .i64 (i : Int)) hHeld rfl rfl (by kernel_rfl) (by kernel_rfl) (by kernel_rfl) (fun _ _ _ h => h) (Or.inl ⟨by rfl, fun w _ => by go_simp⟩) ?_
        simp only [Act.put, List.setIfInBounds_toArray, List.set_cons_zero, List.set_cons_succ]
        refine takeH 3 36 (.pointer (some ⟨b, o + i * 34, none⟩)) hHeld rfl rfl (by kernel_rfl) (by kernel_rfl) (by kernel_rfl) (fun _ _ _ h => h) (Or.inl ⟨by rfl, fun w _ => run_op rfl (HIX.out w)⟩) ?_
        simp only [Act.put, List.setIfInBounds_toArray, List.set_cons_zero, List.set_cons_succ]
        refine takeH 4 37 (.pointer (some ⟨b, o + i * 34, none⟩)) hHeld rfl rfl (by kernel_rfl) (by kernel_rfl) (by kernel_rfl) (fun _ _ _ h => h) (Or.inl ⟨by rfl, fun w _ => by go_simp⟩) ?_
        simp only [Act.put, List.setIfInBounds_toArray, List.set_cons_zero, List.set_cons_succ]
        refine takeH 5 38 (.agg (u8s x.d).toArray) hHeld rfl rfl (by kernel_rfl) (by kernel_rfl) (by kernel_rfl) (fun _ _ _ h => h) (yieldsIf_load_mid (by rfl) _ _ rfl b (o + i * 34) rfl _ _ (fun V h => HRG.out V (HVB.out V h)) hu rfl HX1.out) ?_
        simp only [Act.put, List.setIfInBounds_toArray, List.set_cons_zero, List.set_cons_succ]
        refine takeH 6 39 (.slice (some ⟨b, o, none⟩) len cap) hHeld rfl rfl (by kernel_rfl) (by kernel_rfl) (by kernel_rfl) (fun _ _ _ h => h) (Or.inl ⟨by rfl, fun w _ => by go_simp⟩) ?_
        simp only [Act.put, List.setIfInBounds_toArray, List.set_cons_zero, List.set_cons_succ]
        refine takeH 7 40 (.int .i64 (i : Int)) hHeld rfl rfl (by kernel_rfl) (by kernel_rfl) (by kernel_rfl) (fun _ _ _ h => h) (Or.inl ⟨by rfl, fun w _ => by go_simp⟩) ?_
        simp only [Act.put, List.setIfInBounds_toArray, List.set_cons_zero, List.set_cons_succ]
        refine takeH 8 41 (.pointer (some ⟨b, o + i * 34, none⟩)) hHeld rfl rfl (by kernel_rfl) (by kernel_rfl) (by kernel_rfl) (fun _ _ _ h => h) (Or.inl ⟨by rfl, fun w _ => run_op rfl (HIX.out w)⟩) ?_
        simp only [Act.put, List.setIfInBounds_toArray, List.set_cons_zero, List.set_cons_succ]
        refine takeH 9 42 (.pointer (some ⟨b, o + i * 34 + 32, none⟩)) hHeld rfl rfl (by kernel_rfl) (by kernel_rfl) (by kernel_rfl) (fun _ _ _ h => h) (Or.inl ⟨by rfl, fun w _ => by go_simp⟩) ?_
        simp only [Act.put, List.setIfInBounds_toArray, List.set_cons_zero, List.set_cons_succ]
        refine takeH 10 43 (.int .i64 x.p) hHeld rfl rfl (by kernel_rfl) (by kernel_rfl) (by kernel_rfl) (fun _ _ _ h => h) (Or.inl ⟨by rfl, fun w hw => by have hw' : w.cell? ⟨b, (o + i * 34 + 32), none⟩ = some (.int .i64 x.p) := (fun hw => HCQ.out _ (HVB.out _ hw)) hw; go_simp⟩) ?_
        simp only [Act.put, List.setIfInBounds_toArray, List.set_cons_zero, List.set_cons_succ]
        refine wpAnyH_ready (rs := [11]) (by kernel_rfl) (by simp) (AllReadyH.cons rfl (fun K hK => ?_) AllReadyH.nil)
        rw [if_pos (by rfl)]
        go_simp
        refine (HAE.out _ (HPC.out.on (Below.refl wc.heap.size wc).drew).ix).mono ?_
        rintro e w4 ⟨v2, us2, rfl, hob, hia2⟩
        have hhold := BD.out.trans hob
        have HP4 := hide (HPC.out.addP hhold hia2)
        refine hK.out _ _ (hhold) (fun hHeld => ?_)
        clear hK K
        try simp only [Act.put, List.setIfInBounds_toArray, List.set_cons_zero, List.set_cons_succ]
        refine takeH 12 8 (.int .i64 kk) hHeld rfl rfl (by kernel_rfl) (by kernel_rfl) (by kernel_rfl) (fun _ _ _ h => h) (Or.inl ⟨by rfl, fun w _ => by go_simp⟩) ?_
        simp only [Act.put, List.setIfInBounds_toArray, List.set_cons_zero, List.set_cons_succ]
        refine wpAnyH_done (by kernel_rfl) ?_ _
        refine NoPanic.normal ?_
        clear hHeld hhold hob hia2 HAE HVB BD HPC
        go_upto_region 12 with fail
        have huX := Try.underlying30
        have HXX : Hid ((Try.prog.info? 30).map (·.size) = some [iv, rv].length) := hide (by rw [wX.size]; rfl)
        have HC6 : Hid (∀ V : World, Below w4.heap.size w4 V → V.rangeAt g6 0 [iv, rv]) := hide fun V hV => ((HP4.out.on hV).c6).range 0 _ (by rw [List.drop_zero, List.take_length])
        have HVB2 : Hid (∀ V : World, Below w4.heap.size w4 V → Below w.heap.size w V) := hide fun V hV => on_below HP4.out.bel hV
        refine wp_region_noPanic ?_
        refine wp_region_U (q := 15) (S := fun z : World => Below w4.heap.size w4 z) (by kernel_rfl) ?_
        have Z0 := hide ((Below.refl w4.heap.size w4).drew)
        have hHeld := Z0.out
        refine takeU 15 0 46 (.agg #[iv, rv]) hHeld rfl rfl (by kernel_rfl) (by kernel_rfl) (by kernel_rfl) (by kernel_rfl) (by kernel_rfl) (by kernel_rfl) (fun _ _ _ h => h) (yieldsIf_load_mid (by rfl) _ _ rfl g6 0 rfl _ _ (fun V h => HC6.out V h) huX rfl HXX.out) ?_
        simp only [Act.put, List.setIfInBounds_toArray, List.set_cons_zero, List.set_cons_succ]
        refine takeU 15 1 47 (.slice (some ⟨b, o, none⟩) len cap) hHeld rfl rfl (by kernel_rfl) (by kernel_rfl) (by kernel_rfl) (by kernel_rfl) (by kernel_rfl) (by kernel_rfl) (fun _ _ _ h => h) (Or.inl ⟨by rfl, fun w _ => by go_simp⟩) ?_
        simp only [Act.put, List.setIfInBounds_toArray, List.set_cons_zero, List.set_cons_succ]
        refine takeU 15 2 48 (.int .i64 (i : Int)) hHeld rfl rfl (by kernel_rfl) (by kernel_rfl) (by kernel_rfl) (by kernel_rfl) (by kernel_rfl) (by kernel_rfl) (fun _ _ _ h => h) (Or.inl ⟨by rfl, fun w _ => by go_simp⟩) ?_
        simp only [Act.put, List.setIfInBounds_toArray, List.set_cons_zero, List.set_cons_succ]
        refine takeU 15 3 49 (.pointer (some ⟨b, o + i * 34, none⟩)) hHeld rfl rfl (by kernel_rfl) (by kernel_rfl) (by kernel_rfl) (by kernel_rfl) (by kernel_rfl) (by kernel_rfl) (fun _ _ _ h => h) (Or.inl ⟨by rfl, fun w _ => run_op rfl (HIX.out w)⟩) ?_
        simp only [Act.put, List.setIfInBounds_toArray, List.set_cons_zero, List.set_cons_succ]
        refine takeU 15 4 50 (.pointer (some ⟨b, o + i * 34, none⟩)) hHeld rfl rfl (by kernel_rfl) (by kernel_rfl) (by kernel_rfl) (by kernel_rfl) (by kernel_rfl) (by kernel_rfl) (fun _ _ _ h => h) (Or.inl ⟨by rfl, fun w _ => by go_simp⟩) ?_
        simp only [Act.put, List.setIfInBounds_toArray, List.set_cons_zero, List.set_cons_succ]
        refine takeU 15 5 51 (.agg (u8s x.d).toArray) hHeld rfl rfl (by kernel_rfl) (by kernel_rfl) (by kernel_rfl) (by kernel_rfl) (by kernel_rfl) (by kernel_rfl) (fun _ _ _ h => h) (yieldsIf_load_mid (by rfl) _ _ rfl b (o + i * 34) rfl _ _ (fun V h => HRG.out V (HVB2.out V h)) hu rfl HX1.out) ?_
        simp only [Act.put, List.setIfInBounds_toArray, List.set_cons_zero, List.set_cons_succ]
        refine takeU 15 6 52 (.slice (some ⟨b, o, none⟩) len cap) hHeld rfl rfl (by kernel_rfl) (by kernel_rfl) (by kernel_rfl) (by kernel_rfl) (by kernel_rfl) (by kernel_rfl) (fun _ _ _ h => h) (Or.inl ⟨by rfl, fun w _ => by go_simp⟩) ?_
        simp only [Act.put, List.setIfInBounds_toArray, List.set_cons_zero, List.set_cons_succ]
        refine takeU 15 7 53 (.int .i64 (i : Int)) hHeld rfl rfl (by kernel_rfl) (by kernel_rfl) (by kernel_rfl) (by kernel_rfl) (by kernel_rfl) (by kernel_rfl) (fun _ _ _ h => h) (Or.inl ⟨by rfl, fun w _ => by go_simp⟩) ?_
        simp only [Act.put, List.setIfInBounds_toArray, List.set_cons_zero, List.set_cons_succ]
        refine takeU 15 8 54 (.pointer (some ⟨b, o + i * 34, none⟩)) hHeld rfl rfl (by kernel_rfl) (by kernel_rfl) (by kernel_rfl) (by kernel_rfl) (by kernel_rfl) (by kernel_rfl) (fun _ _ _ h => h) (Or.inl ⟨by rfl, fun w _ => run_op rfl (HIX.out w)⟩) ?_
        simp only [Act.put, List.setIfInBounds_toArray, List.set_cons_zero, List.set_cons_succ]
        refine takeU 15 9 55 (.pointer (some ⟨b, o + i * 34 + 32, none⟩)) hHeld rfl rfl (by kernel_rfl) (by kernel_rfl) (by kernel_rfl) (by kernel_rfl) (by kernel_rfl) (by kernel_rfl) (fun _ _ _ h => h) (Or.inl ⟨by rfl, fun w _ => by go_simp⟩) ?_
        simp only [Act.put, List.setIfInBounds_toArray, List.set_cons_zero, List.set_cons_succ]
        refine takeU 15 10 56 (.int .i64 x.p) hHeld rfl rfl (by kernel_rfl) (by kernel_rfl) (by kernel_rfl) (by kernel_rfl) (by kernel_rfl) (by kernel_rfl) (fun _ _ _ h => h) (Or.inl ⟨by rfl, fun w hw => by have hw' : w.cell? ⟨b, (o + i * 34 + 32), none⟩ = some (.int .i64 x.p) := (fun hw => HCQ.out _ (HVB2.out _ hw)) hw; go_simp⟩) ?_
        simp only [Act.put, List.setIfInBounds_toArray, List.set_cons_zero, List.set_cons_succ]
        refine wpAnyU_ready (rs := [11]) (by kernel_rfl) (by simp) (AllReadyU.cons rfl (fun K hK => ?_) AllReadyU.nil)
        rw [if_pos (by rfl)]
        go_simp
        refine (HDE.out iv rv _ (HP4.out.on Z0.out).dx).mono ?_
        rintro e w5 ⟨iv2, rv2, rfl, hdx, hb5⟩
        have Z5 := hide (on_below Z0.out hb5)
        have HDX5 := hide hdx
        clear hdx hb5
        refine hK.out _ _ (fun _ => Z5.out) ?_
        have hHeld := Z5.out
        clear hK K
        try simp only [Act.put, List.setIfInBounds_toArray, List.set_cons_zero, List.set_cons_succ]
        refine takeU 15 12 45 (.tuple #[.agg #[iv2, rv2], .int .i64 kk]) hHeld rfl rfl (by kernel_rfl) (by kernel_rfl) (by kernel_rfl) (by kernel_rfl) (by kernel_rfl) (by kernel_rfl) (fun _ _ _ h => h) (Or.inl ⟨by rfl, fun w _ => by go_simp⟩) ?_
        simp only [Act.put, List.setIfInBounds_toArray, List.set_cons_zero, List.set_cons_succ]
        refine takeU 15 13 58 (.agg #[iv2, rv2]) hHeld rfl rfl (by kernel_rfl) (by kernel_rfl) (by kernel_rfl) (by kernel_rfl) (by kernel_rfl) (by kernel_rfl) (fun _ _ _ h => h) (Or.inl ⟨by rfl, fun w _ => by go_simp⟩) ?_
        simp only [Act.put, List.setIfInBounds_toArray, List.set_cons_zero, List.set_cons_succ]
        refine wpAnyU_ready (rs := [14, 15]) (by kernel_rfl) (by simp) (AllReadyU.cons rfl (fun K hK => ?_) (AllReadyU.cons rfl (fun K hK => ?_) AllReadyU.nil))
        · rw [if_pos (by rfl)]
          go_simp
          refine hK.out _ _ (fun _ => Z5.out) ?_
          have hHeld := Z5.out
          clear hK K
          try simp only [Act.put, List.setIfInBounds_toArray, List.set_cons_zero, List.set_cons_succ]
          refine wpAnyU_ready (rs := [15]) (by kernel_rfl) (by simp) (AllReadyU.cons rfl (fun K hK => ?_) AllReadyU.nil)
          rw [if_pos (by rfl)]
          refine wp_storeW wX rfl (vs := [iv2, rv2]) rfl rfl (HP4.out.on Z5.out).c6 rfl HDX5.out.one (by simp) ?_
          intro w6 hg6 hbut
          have HP6 := hide ((HP4.out.on Z5.out).store hbut (by simpa [spl] using hg6) HDX5.out)
          refine hK.out _ _ (fun h => absurd h (by decide)) ?_
          clear hK K
          clear hg6 hbut
          try simp only [Act.put, List.setIfInBounds_toArray, List.set_cons_zero, List.set_cons_succ]
          refine wpAnyU_ready (rs := [16]) (by kernel_rfl) (by simp) (AllReadyU.cons rfl (fun K hK => ?_) AllReadyU.nil)
          rw [if_pos (by rfl)]
          go_simp
          refine hK.out _ _ (fun h => absurd h (by decide)) ?_
          clear hK K
          refine wpAnyU_done (by kernel_rfl) ?_ _
          refine NoPanic.normal ?_
          clear hHeld Z0 Z5 HC6 HVB2 HXX HDX5 HDE HP4
          go_upto_region 13 with fail
          have HXX : Hid ((Try.prog.info? 30).map (·.size) = some [iv2, rv2].length) := hide (by rw [wX.size]; rfl)
          have HC6 : Hid (∀ V : World, Below w6.heap.size w6 V → V.rangeAt g6 0 [iv2, rv2]) := hide fun V hV => ((HP6.out.on hV).c6).range 0 _ (by rw [List.drop_zero, List.take_length])
          have HC3 : Hid (∀ V : World, Below w6.heap.size w6 V → V.rangeAt g3 0 (u8s dk)) := hide fun V hV => ((HP6.out.on hV).c3).range 0 _ (by rw [List.drop_zero, List.take_length])
          have HVB2 : Hid (∀ V : World, Below w6.heap.size w6 V → Below w.heap.size w V) := hide fun V hV => on_below HP6.out.bel hV
          refine wp_region_noPanic ?_
          have BD := hide (Below.refl w6.heap.size w6).drew
          refine wp_region_held_drew (S := fun V : World => Below w6.heap.size w6 V) (by kernel_rfl) BD.out (fun hHeld => ?_)
          refine takeH 0 60 (.int .i64 kk) hHeld rfl rfl (by kernel_rfl) (by kernel_rfl) (by kernel_rfl) (fun _ _ _ h => h) (Or.inl ⟨by rfl, fun w _ => by go_simp⟩) ?_
          simp only [Act.put, List.setIfInBounds_toArray, List.set_cons_zero, List.set_cons_succ]
          refine takeH 1 61 (.int .i64 kk) hHeld rfl rfl (by kernel_rfl) (by kernel_rfl) (by kernel_rfl) (fun _ _ _ h => h) (Or.inl ⟨by rfl, fun w _ => by go_simp⟩) ?_
          simp only [Act.put, List.setIfInBounds_toArray, List.set_cons_zero, List.set_cons_succ]
          refine takeH 2 62 (.bool false) hHeld rfl rfl (by kernel_rfl) (by kernel_rfl) (by kernel_rfl) (fun _ _ _ h => h) (Or.inl ⟨by rfl, fun w _ => by go_simp⟩) ?_
          simp only [Act.put, List.setIfInBounds_toArray, List.set_cons_zero, List.set_cons_succ]
          refine takeH 3 63 (.bool false) hHeld rfl rfl (by kernel_rfl) (by kernel_rfl) (by kernel_rfl) (fun _ _ _ h => h) (Or.inl ⟨by rfl, fun w _ => by go_simp⟩) ?_
          simp only [Act.put, List.setIfInBounds_toArray, List.set_cons_zero, List.set_cons_succ]
          refine takeH 4 64 (.pointer (some ⟨gc, 0, none⟩)) hHeld rfl rfl (by kernel_rfl) (by kernel_rfl) (by kernel_rfl) (fun _ _ _ h => h) (Or.inl ⟨by rfl, fun w _ => by go_simp⟩) ?_
          simp only [Act.put, List.setIfInBounds_toArray, List.set_cons_zero, List.set_cons_succ]
          refine takeH 5 65 (.agg #[iv2, rv2]) hHeld rfl rfl (by kernel_rfl) (by kernel_rfl) (by kernel_rfl) (fun _ _ _ h => h) (yieldsIf_load_mid (by rfl) _ _ rfl g6 0 rfl _ _ (fun V h => HC6.out V h) huX rfl HXX.out) ?_
          simp only [Act.put, List.setIfInBounds_toArray, List.set_cons_zero, List.set_cons_succ]
          refine takeH 6 66 (.agg (u8s dk).toArray) hHeld rfl rfl (by kernel_rfl) (by kernel_rfl) (by kernel_rfl) (fun _ _ _ h => h) (yieldsIf_load_mid (by rfl) _ _ rfl g3 0 rfl _ _ (fun V h => HC3.out V h) hu rfl HX2.out) ?_
          simp only [Act.put, List.setIfInBounds_toArray, List.set_cons_zero, List.set_cons_succ]
          refine wpAnyH_ready (rs := [7]) (by kernel_rfl) (by simp) (AllReadyH.cons rfl (fun K hK => ?_) AllReadyH.nil)
          rw [if_pos (by rfl)]
          go_simp
          refine (stands_any gc v2 us2 rs2 iv2 rv2 dk _ (HP6.out.on BD.out).ix (HP6.out.on BD.out).dx HL.out HB.out (by omega)).mono ?_
          rintro e w7 ⟨rfl, hb7⟩
          have BD7 := hide (on_below BD.out hb7)
          clear hb7
          refine hK.out _ _ (BD7.out) (fun hHeld => ?_)
          clear hK K
          try simp only [Act.put, List.setIfInBounds_toArray, List.set_cons_zero, List.set_cons_succ]
          refine takeH 8 68 (.bool false) hHeld rfl rfl (by kernel_rfl) (by kernel_rfl) (by kernel_rfl) (fun _ _ _ h => h) (Or.inl ⟨by rfl, fun w _ => by go_simp⟩) ?_
          simp only [Act.put, List.setIfInBounds_toArray, List.set_cons_zero, List.set_cons_succ]
          refine takeH 9 69 (.bool false) hHeld rfl rfl (by kernel_rfl) (by kernel_rfl) (by kernel_rfl) (fun _ _ _ h => h) (Or.inl ⟨by rfl, fun w _ => by go_simp⟩) ?_
          simp only [Act.put, List.setIfInBounds_toArray, List.set_cons_zero, List.set_cons_succ]
          refine takeH 10 70 (.bool false) hHeld rfl rfl (by kernel_rfl) (by kernel_rfl) (by kernel_rfl) (fun _ _ _ h => h) (Or.inl ⟨by rfl, fun w _ => by go_simp⟩) ?_
          simp only [Act.put, List.setIfInBounds_toArray, List.set_cons_zero, List.set_cons_succ]
          refine takeH 11 71 (.pointer (some ⟨gc, 0, none⟩)) hHeld rfl rfl (by kernel_rfl) (by kernel_rfl) (by kernel_rfl) (fun _ _ _ h => h) (Or.inl ⟨by rfl, fun w _ => by go_simp⟩) ?_
          simp only [Act.put, List.setIfInBounds_toArray, List.set_cons_zero, List.set_cons_succ]
          refine takeH 12 72 (.agg #[iv2, rv2]) hHeld rfl rfl (by kernel_rfl) (by kernel_rfl) (by kernel_rfl) (fun _ _ _ h => h) (yieldsIf_load_mid (by rfl) _ _ rfl g6 0 rfl _ _ (fun V h => HC6.out V h) huX rfl HXX.out) ?_
          simp only [Act.put, List.setIfInBounds_toArray, List.set_cons_zero, List.set_cons_succ]
          refine takeH 13 73 (.slice (some ⟨b, o, none⟩) len cap) hHeld rfl rfl (by kernel_rfl) (by kernel_rfl) (by kernel_rfl) (fun _ _ _ h => h) (Or.inl ⟨by rfl, fun w _ => by go_simp⟩) ?_
          simp only [Act.put, List.setIfInBounds_toArray, List.set_cons_zero, List.set_cons_succ]
          refine takeH 14 74 (.int .i64 (i : Int)) hHeld rfl rfl (by kernel_rfl) (by kernel_rfl) (by kernel_rfl) (fun _ _ _ h => h) (Or.inl ⟨by rfl, fun w _ => by go_simp⟩) ?_
          simp only [Act.put, List.setIfInBounds_toArray, List.set_cons_zero, List.set_cons_succ]
          refine takeH 15 75 (.pointer (some ⟨b, o + i * 34, none⟩)) hHeld rfl rfl (by kernel_rfl) (by kernel_rfl) (by kernel_rfl) (fun _ _ _ h => h) (Or.inl ⟨by rfl, fun w _ => run_op rfl (HIX.out w)⟩) ?_
          simp only [Act.put, List.setIfInBounds_toArray, List.set_cons_zero, List.set_cons_succ]
          refine takeH 16 76 (.pointer (some ⟨b, o + i * 34, none⟩)) hHeld rfl rfl (by kernel_rfl) (by kernel_rfl) (by kernel_rfl) (fun _ _ _ h => h) (Or.inl ⟨by rfl, fun w _ => by go_simp⟩) ?_
          simp only [Act.put, List.setIfInBounds_toArray, List.set_cons_zero, List.set_cons_succ]
          refine takeH 17 77 (.agg (u8s x.d).toArray) hHeld rfl rfl (by kernel_rfl) (by kernel_rfl) (by kernel_rfl) (fun _ _ _ h => h) (yieldsIf_load_mid (by rfl) _ _ rfl b (o + i * 34) rfl _ _ (fun V h => HRG.out V (HVB2.out V h)) hu rfl HX1.out) ?_
          simp only [Act.put, List.setIfInBounds_toArray, List.set_cons_zero, List.set_cons_succ]
          refine wpAnyH_ready (rs := [18]) (by kernel_rfl) (by simp) (AllReadyH.cons rfl (fun K hK => ?_) AllReadyH.nil)
          rw [if_pos (by rfl)]
          go_simp
          refine (stands_any gc v2 us2 rs2 iv2 rv2 x.d _ (HP6.out.on BD7.out).ix (HP6.out.on BD7.out).dx x.hl x.hb (by omega)).mono ?_
          rintro e w8 ⟨rfl, hb8⟩
          have BD8 := hide (on_below BD7.out hb8)
          clear hb8
          refine hK.out _ _ (BD8.out) (fun hHeld => ?_)
          clear hK K
          try simp only [Act.put, List.setIfInBounds_toArray, List.set_cons_zero, List.set_cons_succ]
          refine takeH 19 79 (.bool false) hHeld rfl rfl (by kernel_rfl) (by kernel_rfl) (by kernel_rfl) (fun _ _ _ h => h) (Or.inl ⟨by rfl, fun w _ => by go_simp⟩) ?_
          simp only [Act.put, List.setIfInBounds_toArray, List.set_cons_zero, List.set_cons_succ]
          refine takeH 20 80 (.bool false) hHeld rfl rfl (by kernel_rfl) (by kernel_rfl) (by kernel_rfl) (fun _ _ _ h => h) (Or.inl ⟨by rfl, fun w _ => by go_simp⟩) ?_
          simp only [Act.put, List.setIfInBounds_toArray, List.set_cons_zero, List.set_cons_succ]
          refine wpAnyH_done (by kernel_rfl) ?_ _
          refine NoPanic.normal ?_
          have HP8 := hide (HP6.out.on BD8.out)
          clear hHeld BD BD7 BD8 HC6 HC3 HVB2 HXX HP6
          go_wp2
          exact ⟨⟨i + 1, gc, v2, us2, rs2, iv2, rv2, by omega, by omega, rfl, by go_num, HP8⟩, by simp [intOf]; omega⟩
        · rw [if_pos (by rfl)]
          refine wp_storeW wX rfl (vs := [iv2, rv2]) rfl rfl (HP4.out.on Z5.out).c6 rfl HDX5.out.one (by simp) ?_
          intro w6 hg6 hbut
          have HP6 := hide ((HP4.out.on Z5.out).store hbut (by simpa [spl] using hg6) HDX5.out)
          refine hK.out _ _ (fun h => absurd h (by decide)) ?_
          clear hK K
          clear hg6 hbut
          try simp only [Act.put, List.setIfInBounds_toArray, List.set_cons_zero, List.set_cons_succ]
          refine wpAnyU_ready (rs := [14]) (by kernel_rfl) (by simp) (AllReadyU.cons rfl (fun K hK => ?_) AllReadyU.nil)
          rw [if_pos (by rfl)]
          go_simp
          refine hK.out _ _ (fun h => absurd h (by decide)) ?_
          clear hK K
          try simp only [Act.put, List.setIfInBounds_toArray, List.set_cons_zero, List.set_cons_succ]
          refine wpAnyU_ready (rs := [16]) (by kernel_rfl) (by simp) (AllReadyU.cons rfl (fun K hK => ?_) AllReadyU.nil)
          rw [if_pos (by rfl)]
          go_simp
          refine hK.out _ _ (fun h => absurd h (by decide)) ?_
          clear hK K
          refine wpAnyU_done (by kernel_rfl) ?_ _
          refine NoPanic.normal ?_
          clear hHeld Z0 Z5 HC6 HVB2 HXX HDX5 HDE HP4
          go_upto_region 13 with fail
          have HXX : Hid ((Try.prog.info? 30).map (·.size) = some [iv2, rv2].length) := hide (by rw [wX.size]; rfl)
          have HC6 : Hid (∀ V : World, Below w6.heap.size w6 V → V.rangeAt g6 0 [iv2, rv2]) := hide fun V hV => ((HP6.out.on hV).c6).range 0 _ (by rw [List.drop_zero, List.take_length])
          have HC3 : Hid (∀ V : World, Below w6.heap.size w6 V → V.rangeAt g3 0 (u8s dk)) := hide fun V hV => ((HP6.out.on hV).c3).range 0 _ (by rw [List.drop_zero, List.take_length])
          have HVB2 : Hid (∀ V : World, Below w6.heap.size w6 V → Below w.heap.size w V) := hide fun V hV => on_below HP6.out.bel hV
          refine wp_region_noPanic ?_
          have BD := hide (Below.refl w6.heap.size w6).drew
          refine wp_region_held_drew (S := fun V : World => Below w6.heap.size w6 V) (by kernel_rfl) BD.out (fun hHeld => ?_)
          refine takeH 0 60 (.int .i64 kk) hHeld rfl rfl (by kernel_rfl) (by kernel_rfl) (by kernel_rfl) (fun _ _ _ h => h) (Or.inl ⟨by rfl, fun w _ => by go_simp⟩) ?_
          simp only [Act.put, List.setIfInBounds_toArray, List.set_cons_zero, List.set_cons_succ]
          refine takeH 1 61 (.int .i64 kk) hHeld rfl rfl (by kernel_rfl) (by kernel_rfl) (by kernel_rfl) (fun _ _ _ h => h) (Or.inl ⟨by rfl, fun w _ => by go_simp⟩) ?_
          simp only [Act.put, List.setIfInBounds_toArray, List.set_cons_zero, List.set_cons_succ]
          refine takeH 2 62 (.bool false) hHeld rfl rfl (by kernel_rfl) (by kernel_rfl) (by kernel_rfl) (fun _ _ _ h => h) (Or.inl ⟨by rfl, fun w _ => by go_simp⟩) ?_
          simp only [Act.put, List.setIfInBounds_toArray, List.set_cons_zero, List.set_cons_succ]
          refine takeH 3 63 (.bool false) hHeld rfl rfl (by kernel_rfl) (by kernel_rfl) (by kernel_rfl) (fun _ _ _ h => h) (Or.inl ⟨by rfl, fun w _ => by go_simp⟩) ?_
          simp only [Act.put, List.setIfInBounds_toArray, List.set_cons_zero, List.set_cons_succ]
          refine takeH 4 64 (.pointer (some ⟨gc, 0, none⟩)) hHeld rfl rfl (by kernel_rfl) (by kernel_rfl) (by kernel_rfl) (fun _ _ _ h => h) (Or.inl ⟨by rfl, fun w _ => by go_simp⟩) ?_
          simp only [Act.put, List.setIfInBounds_toArray, List.set_cons_zero, List.set_cons_succ]
          refine takeH 5 65 (.agg #[iv2, rv2]) hHeld rfl rfl (by kernel_rfl) (by kernel_rfl) (by kernel_rfl) (fun _ _ _ h => h) (yieldsIf_load_mid (by rfl) _ _ rfl g6 0 rfl _ _ (fun V h => HC6.out V h) huX rfl HXX.out) ?_
          simp only [Act.put, List.setIfInBounds_toArray, List.set_cons_zero, List.set_cons_succ]
          refine takeH 6 66 (.agg (u8s dk).toArray) hHeld rfl rfl (by kernel_rfl) (by kernel_rfl) (by kernel_rfl) (fun _ _ _ h => h) (yieldsIf_load_mid (by rfl) _ _ rfl g3 0 rfl _ _ (fun V h => HC3.out V h) hu rfl HX2.out) ?_
          simp only [Act.put, List.setIfInBounds_toArray, List.set_cons_zero, List.set_cons_succ]
          refine wpAnyH_ready (rs := [7]) (by kernel_rfl) (by simp) (AllReadyH.cons rfl (fun K hK => ?_) AllReadyH.nil)
          rw [if_pos (by rfl)]
          go_simp
          refine (stands_any gc v2 us2 rs2 iv2 rv2 dk _ (HP6.out.on BD.out).ix (HP6.out.on BD.out).dx HL.out HB.out (by omega)).mono ?_
          rintro e w7 ⟨rfl, hb7⟩
          have BD7 := hide (on_below BD.out hb7)
          clear hb7
          refine hK.out _ _ (BD7.out) (fun hHeld => ?_)
          clear hK K
          try simp only [Act.put, List.setIfInBounds_toArray, List.set_cons_zero, List.set_cons_succ]
          refine takeH 8 68 (.bool false) hHeld rfl rfl (by kernel_rfl) (by kernel_rfl) (by kernel_rfl) (fun _ _ _ h => h) (Or.inl ⟨by rfl, fun w _ => by go_simp⟩) ?_
          simp only [Act.put, List.setIfInBounds_toArray, List.set_cons_zero, List.set_cons_succ]
          refine takeH 9 69 (.bool false) hHeld rfl rfl (by kernel_rfl) (by kernel_rfl) (by kernel_rfl) (fun _ _ _ h => h) (Or.inl ⟨by rfl, fun w _ => by go_simp⟩) ?_
          simp only [Act.put, List.setIfInBounds_toArray, List.set_cons_zero, List.set_cons_succ]
          refine takeH 10 70 (.bool false) hHeld rfl rfl (by kernel_rfl) (by kernel_rfl) (by kernel_rfl) (fun _ _ _ h => h) (Or.inl ⟨by rfl, fun w _ => by go_simp⟩) ?_
          simp only [Act.put, List.setIfInBounds_toArray, List.set_cons_zero, List.set_cons_succ]
          refine takeH 11 71 (.pointer (some ⟨gc, 0, none⟩)) hHeld rfl rfl (by kernel_rfl) (by kernel_rfl) (by kernel_rfl) (fun _ _ _ h => h) (Or.inl ⟨by rfl, fun w _ => by go_simp⟩) ?_
          simp only [Act.put, List.setIfInBounds_toArray, List.set_cons_zero, List.set_cons_succ]
          refine takeH 12 72 (.agg #[iv2, rv2]) hHeld rfl rfl (by kernel_rfl) (by kernel_rfl) (by kernel_rfl) (fun _ _ _ h => h) (yieldsIf_load_mid (by rfl) _ _ rfl g6 0 rfl _ _ (fun V h => HC6.out V h) huX rfl HXX.out) ?_
          simp only [Act.put, List.setIfInBounds_toArray, List.set_cons_zero, List.set_cons_succ]
          refine takeH 13 73 (.slice (some ⟨b, o, none⟩) len cap) hHeld rfl rfl (by kernel_rfl) (by kernel_rfl) (by kernel_rfl) (fun _ _ _ h => h) (Or.inl ⟨by rfl, fun w _ => by go_simp⟩) ?_
          simp only [Act.put, List.setIfInBounds_toArray, List.set_cons_zero, List.set_cons_succ]
          refine takeH 14 74 (.int .i64 (i : Int)) hHeld rfl rfl (by kernel_rfl) (by kernel_rfl) (by kernel_rfl) (fun _ _ _ h => h) (Or.inl ⟨by rfl, fun w _ => by go_simp⟩) ?_
          simp only [Act.put, List.setIfInBounds_toArray, List.set_cons_zero, List.set_cons_succ]
          refine takeH 15 75 (.pointer (some ⟨b, o + i * 34, none⟩)) hHeld rfl rfl (by kernel_rfl) (by kernel_rfl) (by kernel_rfl) (fun _ _ _ h => h) (Or.inl ⟨by rfl, fun w _ => run_op rfl (HIX.out w)⟩) ?_
          simp only [Act.put, List.setIfInBounds_toArray, List.set_cons_zero, List.set_cons_succ]
          refine takeH 16 76 (.pointer (some ⟨b, o + i * 34, none⟩)) hHeld rfl rfl (by kernel_rfl) (by kernel_rfl) (by kernel_rfl) (fun _ _ _ h => h) (Or.inl ⟨by rfl, fun w _ => by go_simp⟩) ?_
          simp only [Act.put, List.setIfInBounds_toArray, List.set_cons_zero, List.set_cons_succ]
          refine takeH 17 77 (.agg (u8s x.d).toArray) hHeld rfl rfl (by kernel_rfl) (by kernel_rfl) (by kernel_rfl) (fun _ _ _ h => h) (yieldsIf_load_mid (by rfl) _ _ rfl b (o + i * 34) rfl _ _ (fun V h => HRG.out V (HVB2.out V h)) hu rfl HX1.out) ?_
          simp only [Act.put, List.setIfInBounds_toArray, List.set_cons_zero, List.set_cons_succ]
          refine wpAnyH_ready (rs := [18]) (by kernel_rfl) (by simp) (AllReadyH.cons rfl (fun K hK => ?_) AllReadyH.nil)
          rw [if_pos (by rfl)]
          go_simp
          refine (stands_any gc v2 us2 rs2 iv2 rv2 x.d _ (HP6.out.on BD7.out).ix (HP6.out.on BD7.out).dx x.hl x.hb (by omega)).mono ?_
          rintro e w8 ⟨rfl, hb8⟩
          have BD8 := hide (on_below BD7.out hb8)
          clear hb8
          refine hK.out _ _ (BD8.out) (fun hHeld => ?_)
          clear hK K
          try simp only [Act.put, List.setIfInBounds_toArray, List.set_cons_zero, List.set_cons_succ]
          refine takeH 19 79 (.bool false) hHeld rfl rfl (by kernel_rfl) (by kernel_rfl) (by kernel_rfl) (fun _ _ _ h => h) (Or.inl ⟨by rfl, fun w _ => by go_simp⟩) ?_
          simp only [Act.put, List.setIfInBounds_toArray, List.set_cons_zero, List.set_cons_succ]
          refine takeH 20 80 (.bool false) hHeld rfl rfl (by kernel_rfl) (by kernel_rfl) (by kernel_rfl) (fun _ _ _ h => h) (Or.inl ⟨by rfl, fun w _ => by go_simp⟩) ?_
          simp only [Act.put, List.setIfInBounds_toArray, List.set_cons_zero, List.set_cons_succ]
          refine wpAnyH_done (by kernel_rfl) ?_ _
          refine NoPanic.normal ?_
          have HP8 := hide (HP6.out.on BD8.out)
          clear hHeld BD BD7 BD8 HC6 HC3 HVB2 HXX HP6
          go_wp2
          exact ⟨⟨i + 1, gc, v2, us2, rs2, iv2, rv2, by omega, by omega, rfl, by go_num, HP8⟩, by simp [intOf]; omega⟩
    · obtain rfl : i = len := by omega
      have hlt' : ¬ (i : Int) < (i : Int) := by omega
      go_wp2_with fail
      refine (names_any wr).mono ?_
      rintro e w5 ⟨rfl, hb5⟩
      have HB5 := hide (on_below HP.out.bel hb5)
      clear hb5
      go_wp2
      go_ret
      exact ⟨rfl, HB5.out⟩

end Go.Proofs.Ytabpfbankinojaa
