/-
  The walk of DigestsOrder.
-/
import Derived.Test.YtabpfbankinojaaDroD
namespace Go.Proofs.Ytabpfbankinojaa
open Go.RowKit Go.Shelf
set_option linter.unusedVariables false
set_option linter.unusedSimpArgs false
set_option maxRecDepth 100000

set_option maxHeartbeats 4000000 in
theorem dorder_walk (a : Option Addr) (len cap : Nat) (xs : List Int) (by' : Int) (w : World) (hs : Ds w a len cap xs) (hc : cap ≤ 4398046510976) (hb1 : -9223372036854775808 ≤ by') (hb2 : by' ≤ 9223372036854775807) :
    Calls Try.prog 6 #[.slice a len cap, .int .i64 by'] w fun e w' => e = .returned (.bool true) ∧ Below w.heap.size w w' := by
  have HS := hide hs
  have hlc := hs.hcap
  have HBY := hide (And.intro hb1 hb2)
  clear hs hb1 hb2
  refine (callsIn_wide (n := 6)).1 ?_
  refine callsIn_of_wp_marks Try.func6 rfl trivial ?_ rfl
  refine wpIn_wide.2 ?_
  simp only [Try.ntmps6, List.size_toArray, List.length_cons, List.length_nil, Nat.reduceAdd, Nat.reduceSub, Array.replicate_succ, Array.replicate_zero, List.push_toArray, List.append_toArray, List.nil_append, List.cons_append]
  go_wp2_with fail
  have C0 : Blk (w.alloc (.cells #[.bool false] 4)) w.heap.size 4 [.bool false] := Blk.made w _ [.bool false]
  have hB0 : Below w.heap.size w (w.alloc (.cells #[.bool false] 4)) := (Below.refl _ _).alloc (Nat.le_refl _) _
  revert C0 hB0
  obtain ⟨r0, hr0⟩ : ∃ r0, w.heap.size = r0 := ⟨_, rfl⟩
  generalize w.alloc (.cells #[.bool false] 4) = w1
  intro C0 hB0
  refine (new_any w1).mono ?_
  rintro e w2 ⟨ga, rfl, hia, hga, hb2⟩
  go_wp2_with fail
  refine (new_any w2).mono ?_
  rintro e w3 ⟨gb, rfl, hib, hgb, hb3⟩
  have H0 : Hid (LW w w3 ga gb r0 (.slice none 0 0) [] [] (.slice none 0 0) [] [] (.slice none 0 0) 0 []) := hide ⟨⟨hia.on hb3, hib, by rw [← hr0]; exact (C0.on hb2).on hb3, on_below (on_below hB0 hb2) hb3, Nat.le_trans hB0.size hga, Nat.le_trans (on_below hB0 hb2).size hgb, by rw [← hr0]; exact Nat.le_refl _, by have := hia.lt; omega⟩, DOwn.nil _ _, (fun x hx => by cases hx)⟩
  clear hia hib hga hgb hb2 hb3 C0 hB0 hr0
  go_wp2_with fail
  go_loopw [7, 8] (fun s7 s8 wr => ∃ (i n : Nat) (ys : List Int) (va : Value) (ua : List Value) (rsA : List (List Ent)), i ≤ len ∧ n ≤ i ∧ s8 = .int .i64 i ∧ Hid (LW w wr ga gb r0 va ua rsA (.slice none 0 0) [] [] s7 n ys) ∧ Hid (OA rsA ys n)) (fun _ s8 _ => len - (intOf s8).toNat)
  case atStart => exact ⟨0, 0, [], _, _, _, Nat.zero_le _, Nat.le_refl _, rfl, H0, hide OA.zero⟩
  case round =>
    obtain ⟨i, n, ys, va, ua, rsA, hi, hni, rfl, HL, HO⟩ := hrel
    clear H0
    by_cases hlt : i < len
    · have hlt' : (i : Int) < (len : Int) := by omega
      obtain ⟨b, o, rfl⟩ := HS.out.place (by omega)
      have hix := fun W => d_at b o len cap i (i : Int) rfl hlt W
      have HIX := hide hix
      have hdl := dat_length HS.out.hlen hlt
      have hdb := dat_isB HS.out.hbyte i
      obtain ⟨fb, hfb, hf0, hf1⟩ := fstB_in hdb
      obtain ⟨x, hxd, hxp⟩ : ∃ x : Ent, x.d = dat xs i ∧ x.p = fb := ⟨⟨dat xs i, fb, hdl, hdb⟩, rfl, rfl⟩
      have hnc : cnt rsA < 4398046511104 := by rw [HO.out.cn]; omega
      have HRG : Hid (∀ V : World, Below w.heap.size w V → V.rangeAt b (o + 32 * i) (u8s (dat xs i))) := hide fun V hV => (HS.out.below hV).range i hlt
      have HCE : Hid (∀ V : World, Below w.heap.size w V → V.cell? ⟨b, o + 32 * i, none⟩ = some (.int .u8 fb)) := hide fun V hV => by rw [(HS.out.below hV).cell0 hlt, hfb]
      have HXF : Hid (x.p = fstB x.d) := hide (by rw [hxp, hxd, hfb])
      obtain ⟨d, hd⟩ : ∃ d, dat xs i = d := ⟨_, rfl⟩
      have HDL := hide hdl
      have HDB := hide hdb
      have HXD := hide hxd
      rw [hd] at HRG HDL HDB HXD
      have HRL : Hid ((u8s d).length = 32) := hide (by rw [u8s_length]; exact HDL.out)
      clear hdl hdb hfb hd hxd
      have hu := aDd.und
      have HX1 : Hid ((Try.prog.info? 24).map (·.size) = some (u8s d).length) := hide (by rw [wideD.size, HRL.out])
      have hfw : IntKind.i64.wrap fb = fb := wrap_in _ (by omega) (by omega)
      have ha0 : (Instr.indexAt 24 (.pointer (some ⟨b, o + 32 * i, none⟩)) (.int .i64 0)).run Try.prog = fun W => .ok (.pointer (some ⟨b, o + 32 * i, none⟩)) W := by funext W; kernel_rfl
      have HAE := hide (fun V (h : IxA V ga va ua rsA) => add_either ga va ua rsA x V h hnc (by rw [hxp]; exact hf0))
      rw [HXD.out, hxp] at HAE
      clear hxp
      go_upto_region 6 with fail
      refine wp_region_noPanic ?_
      have BD := hide (OnlyB.of_below (g := ga) (Below.refl wr.heap.size wr).drew)
      have HVB : Hid (∀ V : World, OnlyB ga wr V → Below w.heap.size w V) := hide fun V hV => HL.out.ow.bel.trans (hV.below HL.out.ow.la HL.out.size)
      refine wp_region_held_drew (S := fun V : World => OnlyB ga wr V) (by kernel_rfl) BD.out (fun hHeld => ?_)
      refine takeH 0 26 (.pointer (some ⟨ga, 0, none⟩)) hHeld rfl rfl (by kernel_rfl) (by kernel_rfl) (by kernel_rfl) (fun _ _ _ h => h) (Or.inl ⟨by rfl, fun w _ => by go_simp⟩) ?_
      simp only [Act.put, List.setIfInBounds_toArray, List.set_cons_zero, List.set_cons_succ]
      refine takeH 1 27 (.slice (some ⟨b, o, none⟩) len cap) hHeld rfl rfl (by kernel_rfl) (by kernel_rfl) (by kernel_rfl) (fun _ _ _ h => h) (Or.inl ⟨by rfl, fun w _ => by go_simp⟩) ?_
      simp only [Act.put, List.setIfInBounds_toArray, List.set_cons_zero, List.set_cons_succ]
      refine takeH 2 28 (.int .i64 (i : Int)) hHeld rfl rfl (by kernel_rfl) (by kernel_rfl) (by kernel_rfl) (fun _ _ _ h => h) (Or.inl ⟨by rfl, fun w _ => by go_simp⟩) ?_
      simp only [Act.put, List.setIfInBounds_toArray, List.set_cons_zero, List.set_cons_succ]
      refine takeH 3 29 (.pointer (some ⟨b, o + 32 * i, none⟩)) hHeld rfl rfl (by kernel_rfl) (by kernel_rfl) (by kernel_rfl) (fun _ _ _ h => h) (Or.inl ⟨by rfl, fun w _ => run_op rfl (HIX.out w)⟩) ?_
      simp only [Act.put, List.setIfInBounds_toArray, List.set_cons_zero, List.set_cons_succ]
      refine takeH 4 30 (.agg (u8s d).toArray) hHeld rfl rfl (by kernel_rfl) (by kernel_rfl) (by kernel_rfl) (fun _ _ _ h => h) (yieldsIf_load_mid (by rfl) _ _ rfl b (o + 32 * i) rfl _ _ (fun V h => HRG.out V (HVB.out V h)) hu rfl HX1.out) ?_
      simp only [Act.put, List.setIfInBounds_toArray, List.set_cons_zero, List.set_cons_succ]
      refine takeH 5 31 (.slice (some ⟨b, o, none⟩) len cap) hHeld rfl rfl (by kernel_rfl) (by kernel_rfl) (by kernel_rfl) (fun _ _ _ h => h) (Or.inl ⟨by rfl, fun w _ => by go_simp⟩) ?_
      simp only [Act.put, List.setIfInBounds_toArray, List.set_cons_zero, List.set_cons_succ]
      refine takeH 6 32 (.int .i64 (i : Int)) hHeld rfl rfl (by kernel_rfl) (by kernel_rfl) (by kernel_rfl) (fun _ _ _ h => h) (Or.inl ⟨by rfl, fun w _ => by go_simp⟩) ?_
      simp only [Act.put, List.setIfInBounds_toArray, List.set_cons_zero, List.set_cons_succ]
      refine takeH 7 33 (.pointer (some ⟨b, o + 32 * i, none⟩)) hHeld rfl rfl (by kernel_rfl) (by kernel_rfl) (by kernel_rfl) (fun _ _ _ h => h) (Or.inl ⟨by rfl, fun w _ => run_op rfl (HIX.out w)⟩) ?_
      simp only [Act.put, List.setIfInBounds_toArray, List.set_cons_zero, List.set_cons_succ]
      refine takeH 8 34 (.pointer (some ⟨b, o + 32 * i, none⟩)) hHeld rfl rfl (by kernel_rfl) (by kernel_rfl) (by kernel_rfl) (fun _ _ _ h => h) (Or.inl ⟨by rfl, fun w _ => by go_simp⟩) ?_
      simp only [Act.put, List.setIfInBounds_toArray, List.set_cons_zero, List.set_cons_succ]
      refine takeH 9 35 (.int .u8 fb) hHeld rfl rfl (by kernel_rfl) (by kernel_rfl) (by kernel_rfl) (fun _ _ _ h => h) (Or.inl ⟨by rfl, fun w hw => by have hw' : w.cell? ⟨b, (o + 32 * i), none⟩ = some (.int .u8 fb) := (fun hw => HCE.out _ (HVB.out _ hw)) hw; go_simp⟩) ?_
      simp only [Act.put, List.setIfInBounds_toArray, List.set_cons_zero, List.set_cons_succ]
      refine takeH 10 36 (.int .i64 fb) hHeld rfl rfl (by kernel_rfl) (by kernel_rfl) (by kernel_rfl) (fun _ _ _ h => h) (Or.inl ⟨by rfl, fun w _ => by go_simp⟩) ?_
      simp only [Act.put, List.setIfInBounds_toArray, List.set_cons_zero, List.set_cons_succ]
      refine wpAnyH_ready (rs := [11]) (by kernel_rfl) (by simp) (AllReadyH.cons rfl (fun K hK => ?_) AllReadyH.nil)
      rw [if_pos (by rfl)]
      go_simp
      refine (HAE.out _ (HL.out.ow.a.on (Below.refl wr.heap.size wr).drew)).mono ?_
      rintro e w4 ⟨k, va2, ua2, rs2, rfl, hob, hia2, hk⟩
      have hhold := BD.out.trans hob
      have HL4 := hide (HL.out.addA hhold hia2)
      refine hK.out _ _ (hhold) (fun hHeld => ?_)
      clear hK K
      try simp only [Act.put, List.setIfInBounds_toArray, List.set_cons_zero, List.set_cons_succ]
      rcases hk with ⟨rfl, rfl, hf⟩ | ⟨rfl, rfl, hf⟩
      · skip
        refine takeH 12 38 (.bool false) hHeld rfl rfl (by kernel_rfl) (by kernel_rfl) (by kernel_rfl) (fun _ _ _ h => h) (Or.inl ⟨by rfl, fun w _ => by go_simp⟩) ?_
        simp only [Act.put, List.setIfInBounds_toArray, List.set_cons_zero, List.set_cons_succ]
        refine wpAnyH_done (by kernel_rfl) ?_ _
        refine NoPanic.normal ?_
        clear hHeld
        go_wp2
        exact ⟨⟨i + 1, n, ys, va2, ua2, _, by omega, by omega, by go_num, HL4, HO⟩, by simp [intOf]; omega⟩
      · skip
        refine takeH 12 38 (.bool true) hHeld rfl rfl (by kernel_rfl) (by kernel_rfl) (by kernel_rfl) (fun _ _ _ h => h) (Or.inl ⟨by rfl, fun w _ => by go_simp⟩) ?_
        simp only [Act.put, List.setIfInBounds_toArray, List.set_cons_zero, List.set_cons_succ]
        refine wpAnyH_done (by kernel_rfl) ?_ _
        refine NoPanic.normal ?_
        have HRG4 := hide (HRG.out _ HL4.out.ow.bel)
        clear hHeld hhold hob hia2
        go_wp2_with (first | refine step_loadR wideD rfl rfl (u8s d) HRG4.out HRL.out ?_ | refine BigFrame.wpList_want rfl (fun K hK => wp_oneD rfl HDL.out HDB.out (fun w5 g5 hds hb5 => hK _ _ ?_)) | refine step_appendD rfl rfl rfl (HL4.out.own.below hb5) hds (by omega) (by have := HL4.out.size; have := hb5.size; omega) ?_)
        intro v5 w6 hown hgr
        have HOX : Hid (OA (addR rsA x) (ys ++ d) (n + 1)) := hide (by
          have := HO.out.add HXF.out (by rw [HXD.out]; exact hf)
          rwa [HXD.out] at this)
        have HL6 := hide ((HL4.out.on hb5).grown hgr hown (HL4.out.bb.append HDB.out))
        clear hK K hown hgr hds
        go_wp2
        exact ⟨⟨i + 1, n + 1, ys ++ d, va2, ua2, _, by omega, by omega, by go_num, HL6, HOX⟩, by simp [intOf]; omega⟩
    · obtain rfl : i = len := by omega
      have hlt' : ¬ (i : Int) < (i : Int) := by omega
      obtain ⟨ao, co, rfl, hdsO, hOge⟩ := HL.out.own.ds HL.out.bb (by omega)
      have HDO := hide hdsO
      clear hdsO hOge
      obtain ⟨r, hrn, hturn⟩ := turn_all by' n
      have HT := hide hturn
      have HRN := hide hrn
      clear hturn hrn
      go_wp2_with fail
      clear HS hlt hi hlt'
      go_loopw [10, 11] (fun s10 s11 wq => ∃ (j : Nat) (vb : Value) (ub : List Value) (rsB : List (List Ent)), j ≤ n ∧ s10 = .int .i64 j ∧ Hid (LW w wq ga gb r0 va ua rsA vb ub rsB (.slice ao n co) n ys) ∧ Hid (OB rsB ys (kf r n) j)) (fun s10 _ _ => n - (intOf s10).toNat)
      case atStart => exact ⟨0, _, _, _, Nat.zero_le _, rfl, HL, hide (OB.zero _ _)⟩
      case round =>
        obtain ⟨j, vb, ub, rsB, hj, rfl, HL2, HB2⟩ := hrel
        clear HDO HL
        by_cases hjn : j < n
        · have hjn' : (j : Int) < (n : Int) := by omega
          obtain ⟨hk, ht0, ht1⟩ := HT.out j hjn
          have hkn : kf r n j < n := kf_lt (by have := HRN.out; omega) hjn
          have hn0 : ¬ (n : Int) = 0 := by omega
          go_upto_region 13 with fail
          have hne := OB.none HO.out HB2.out (by have := HRN.out; omega) hjn
          obtain ⟨k, hkf⟩ : ∃ k, kf r n j = k := ⟨_, rfl⟩
          have HKF := hide hkf
          rw [hkf] at hkn hne ⊢
          clear hk hkf ht0 ht1
          have hdsO := HL2.out.ds (by omega)
          obtain ⟨bo, oo, rfl⟩ := hdsO.place (by omega)
          have HIX := hide (fun W => d_at bo oo n co k (k : Int) rfl hkn W)
          have hdl := dat_length hdsO.hlen hkn
          have hdb := dat_isB hdsO.hbyte k
          obtain ⟨fb, hfb, hf0, hf1⟩ := fstB_in hdb
          obtain ⟨x, hxd, hxp⟩ : ∃ x : Ent, x.d = dat ys k ∧ x.p = fb := ⟨⟨dat ys k, fb, hdl, hdb⟩, rfl, rfl⟩
          have hnc : cnt rsB < 4398046511104 := by rw [HB2.out.cn]; omega
          have HRG : Hid (∀ V : World, OnlyB gb wr V → V.rangeAt bo (oo + 32 * k) (u8s (dat ys k))) := hide fun V hV => (HL2.out.dsB (by omega) hV).range k hkn
          have HCE : Hid (∀ V : World, OnlyB gb wr V → V.cell? ⟨bo, oo + 32 * k, none⟩ = some (.int .u8 fb)) := hide fun V hV => by rw [(HL2.out.dsB (by omega) hV).cell0 hkn, hfb]
          have HBX : Hid (OB (addR rsB x) ys (kf r n) (j + 1)) := hide (HB2.out.add (by rw [hxd, HKF.out]) (by rw [hxp, hxd, hfb]))
          obtain ⟨d, hd⟩ : ∃ d, dat ys k = d := ⟨_, rfl⟩
          rw [hd] at HRG hdl hdb hxd hne
          have HRL : Hid ((u8s d).length = 32) := hide (by rw [u8s_length]; exact hdl)
          have hu := aDd.und
          have HX1 : Hid ((Try.prog.info? 24).map (·.size) = some (u8s d).length) := hide (by rw [wideD.size, HRL.out])
          have hfw : IntKind.i64.wrap fb = fb := wrap_in _ (by omega) (by omega)
          have ha0 : (Instr.indexAt 24 (.pointer (some ⟨bo, oo + 32 * k, none⟩)) (.int .i64 0)).run Try.prog = fun W => .ok (.pointer (some ⟨bo, oo + 32 * k, none⟩)) W := by funext W; kernel_rfl
          have HAE := hide (fun V (h : IxA V gb vb ub rsB) => add_ok gb vb ub rsB x V h hnc (by rw [hxp]; exact hf0) (by rw [hxd]; exact hne))
          rw [hxd, hxp] at HAE
          clear hdl hdb hfb hd hxd hxp hdsO hne
          refine wp_region_noPanic ?_
          have BD := hide (OnlyB.of_below (g := gb) (Below.refl wr.heap.size wr).drew)
          refine wp_region_held_drew (S := fun V : World => OnlyB gb wr V) (by kernel_rfl) BD.out (fun hHeld => ?_)
          refine takeH 0 62 (.pointer (some ⟨gb, 0, none⟩)) hHeld rfl rfl (by kernel_rfl) (by kernel_rfl) (by kernel_rfl) (fun _ _ _ h => h) (Or.inl ⟨by rfl, fun w _ => by go_simp⟩) ?_
          simp only [Act.put, List.setIfInBounds_toArray, List.set_cons_zero, List.set_cons_succ]
          refine takeH 1 63 (.slice (some ⟨bo, oo, none⟩) n co) hHeld rfl rfl (by kernel_rfl) (by kernel_rfl) (by kernel_rfl) (fun _ _ _ h => h) (Or.inl ⟨by rfl, fun w _ => by go_simp⟩) ?_
          simp only [Act.put, List.setIfInBounds_toArray, List.set_cons_zero, List.set_cons_succ]
          refine takeH 2 64 (.int .i64 (k : Int)) hHeld rfl rfl (by kernel_rfl) (by kernel_rfl) (by kernel_rfl) (fun _ _ _ h => h) (Or.inl ⟨by rfl, fun w _ => by go_simp⟩) ?_
          simp only [Act.put, List.setIfInBounds_toArray, List.set_cons_zero, List.set_cons_succ]
          refine takeH 3 65 (.pointer (some ⟨bo, oo + 32 * k, none⟩)) hHeld rfl rfl (by kernel_rfl) (by kernel_rfl) (by kernel_rfl) (fun _ _ _ h => h) (Or.inl ⟨by rfl, fun w _ => run_op rfl (HIX.out w)⟩) ?_
          simp only [Act.put, List.setIfInBounds_toArray, List.set_cons_zero, List.set_cons_succ]
          refine takeH 4 66 (.agg (u8s d).toArray) hHeld rfl rfl (by kernel_rfl) (by kernel_rfl) (by kernel_rfl) (fun _ _ _ h => h) (yieldsIf_load_mid (by rfl) _ _ rfl bo (oo + 32 * k) rfl _ _ (fun V h => HRG.out V h) hu rfl HX1.out) ?_
          simp only [Act.put, List.setIfInBounds_toArray, List.set_cons_zero, List.set_cons_succ]
          refine takeH 5 67 (.slice (some ⟨bo, oo, none⟩) n co) hHeld rfl rfl (by kernel_rfl) (by kernel_rfl) (by kernel_rfl) (fun _ _ _ h => h) (Or.inl ⟨by rfl, fun w _ => by go_simp⟩) ?_
          simp only [Act.put, List.setIfInBounds_toArray, List.set_cons_zero, List.set_cons_succ]
          refine takeH 6 68 (.int .i64 (k : Int)) hHeld rfl rfl (by kernel_rfl) (by kernel_rfl) (by kernel_rfl) (fun _ _ _ h => h) (Or.inl ⟨by rfl, fun w _ => by go_simp⟩) ?_
          simp only [Act.put, List.setIfInBounds_toArray, List.set_cons_zero, List.set_cons_succ]
          refine takeH 7 69 (.pointer (some ⟨bo, oo + 32 * k, none⟩)) hHeld rfl rfl (by kernel_rfl) (by kernel_rfl) (by kernel_rfl) (fun _ _ _ h => h) (Or.inl ⟨by rfl, fun w _ => run_op rfl (HIX.out w)⟩) ?_
          simp only [Act.put, List.setIfInBounds_toArray, List.set_cons_zero, List.set_cons_succ]
          refine takeH 8 70 (.pointer (some ⟨bo, oo + 32 * k, none⟩)) hHeld rfl rfl (by kernel_rfl) (by kernel_rfl) (by kernel_rfl) (fun _ _ _ h => h) (Or.inl ⟨by rfl, fun w _ => by go_simp⟩) ?_
          simp only [Act.put, List.setIfInBounds_toArray, List.set_cons_zero, List.set_cons_succ]
          refine takeH 9 71 (.int .u8 fb) hHeld rfl rfl (by kernel_rfl) (by kernel_rfl) (by kernel_rfl) (fun _ _ _ h => h) (Or.inl ⟨by rfl, fun w hw => by have hw' : w.cell? ⟨bo, (oo + 32 * k), none⟩ = some (.int .u8 fb) := (fun hw => HCE.out _ hw) hw; go_simp⟩) ?_
          simp only [Act.put, List.setIfInBounds_toArray, List.set_cons_zero, List.set_cons_succ]
          refine takeH 10 72 (.int .i64 fb) hHeld rfl rfl (by kernel_rfl) (by kernel_rfl) (by kernel_rfl) (fun _ _ _ h => h) (Or.inl ⟨by rfl, fun w _ => by go_simp⟩) ?_
          simp only [Act.put, List.setIfInBounds_toArray, List.set_cons_zero, List.set_cons_succ]
          refine wpAnyH_ready (rs := [11]) (by kernel_rfl) (by simp) (AllReadyH.cons rfl (fun K hK => ?_) AllReadyH.nil)
          rw [if_pos (by rfl)]
          go_simp
          refine (HAE.out _ (HL2.out.ow.b.on (Below.refl wr.heap.size wr).drew)).mono ?_
          rintro e w4 ⟨rfl, hob, vb2, ub2, hib2⟩
          have hhold := BD.out.trans hob
          have HL4 := hide (HL2.out.addB hhold hib2)
          refine hK.out _ _ (hhold) (fun hHeld => ?_)
          clear hK K
          try simp only [Act.put, List.setIfInBounds_toArray, List.set_cons_zero, List.set_cons_succ]
          refine takeH 12 74 (.bool false) hHeld rfl rfl (by kernel_rfl) (by kernel_rfl) (by kernel_rfl) (fun _ _ _ h => h) (Or.inl ⟨by rfl, fun w _ => by go_simp⟩) ?_
          simp only [Act.put, List.setIfInBounds_toArray, List.set_cons_zero, List.set_cons_succ]
          refine wpAnyH_done (by kernel_rfl) ?_ _
          refine NoPanic.normal ?_
          clear hHeld hhold hob hib2 HAE HRG HCE BD
          go_wp2
          exact ⟨⟨j + 1, vb2, ub2, _, by omega, by go_num, HL4, HBX⟩, by simp [intOf]; omega⟩
        · obtain rfl : j = n := by omega
          have hjn' : ¬ (j : Int) < (j : Int) := by omega
          have hsame := OB.same HL2.out.ow.a.ok HL2.out.ow.b.ok HO.out HB2.out HRN.out
          have HSAME := hide hsame
          clear hsame HT HRN
          have HCN : Hid (cnt rsA = j ∧ cnt rsB = j) := hide ⟨HO.out.cn, HB2.out.cn⟩
          go_wp2_with fail
          refine (cloneI_any ga va ua rsA wr HL2.out.ow.a).mono ?_
          rintro e w4 ⟨gc, rfl, hic, hgc, hb4⟩
          have HIC := hide hic
          have HBC4 := hide hb4
          clear hic hb4
          go_wp2_with fail
          refine (all_mk (some ⟨ga, 0, none⟩) _).mono ?_
          rintro e w5 ⟨x1, rfl, _, _, hb5⟩
          have HBC5 := hide (on_below HBC4.out hb5)
          have HIC5 := hide (HIC.out.on hb5)
          clear hb5 HBC4 HIC
          have heq : ∀ (p : Option Addr) (v : World), (binOp BinOp.eql 45 (.func (.func 23) #[] #[.pointer p]) .nilFunc).run Try.prog v = .ok (.bool false) v := fun p v => by kernel_rfl
          go_wp2_with fail
          refine (all_mk (some ⟨gb, 0, none⟩) _).mono ?_
          rintro e w6 ⟨x2, rfl, _, _, hb6⟩
          have HBC6 := hide (on_below HBC5.out hb6)
          have HIC6 := hide (HIC5.out.on hb6)
          clear hb6 HBC5 HIC5
          go_wp2_with fail
          refine (add_some gc va ua rsA ⟨[1, 2, 3, 4, 5, 0, 0, 0, 0, 0, 0, 0, 0, 0, 0, 0, 0, 0, 0, 0, 0, 0, 0, 0, 0, 0, 0, 0, 0, 0, 0, 0], 7, rfl, by unfold isB; decide⟩ w6 HIC6.out (by rw [HCN.out.1]; omega) (by decide)).mono ?_
          rintro e w7 ⟨⟨k7, rfl⟩, hob7⟩
          have hb7 : Below wr.heap.size wr w7 := HBC6.out.trans (hob7.below hgc HBC6.out.size)
          have HL7 := hide (HL2.out.on hb7)
          clear hb7 hob7 HBC6 HIC6 HL2 hgc heq
          go_wp2_with fail
          have C8 : Blk (w7.alloc (.cells #[.slice none 0 0] 52)) w7.heap.size 52 [.slice none 0 0] := Blk.made w7 _ _
          have HL8 := hide (HL7.out.on ((Below.refl w7.heap.size w7).alloc (Nat.le_refl _) (.cells #[.slice none 0 0] 52)))
          obtain ⟨bl, hbl⟩ : ∃ bl, w7.heap.size = bl := ⟨_, rfl⟩
          have hblw : w.heap.size ≤ bl := by rw [← hbl]; exact HL7.out.size
          clear HL7
          revert C8 HL8
          generalize w7.alloc (.cells #[.slice none 0 0] 52) = w8
          rw [hbl]
          intro C8 HL8
          clear hbl
          refine (all_mk (some ⟨ga, 0, none⟩) _).mono ?_
          rintro e w9 ⟨x3, rfl, BX3, _, hb9⟩
          have HL9 := hide (HL8.out.on hb9)
          have HC9 := hide (C8.on hb9)
          have hbl9 : bl < w9.heap.size := HC9.out.lt
          clear HL8 C8 hb9
          have HLEN : Hid ((allE rsA).length = j) := hide (by rw [allE_len, HCN.out.1])
          have HEP : Hid (∀ x ∈ allE rsA, x.p = fstB x.d) := hide (fun x hx => by
            have h1 := ((LS.start HL9.out.ow.a.ok).mem x).1 hx
            rw [← mem_getD] at h1
            obtain ⟨q, hq, he⟩ := h1
            exact (HO.out.of q hq x he).2)
          have HSQ := hide (alls_seq ga va ua rsA x3 5 w9 HL9.out.ow.a BX3 (HL9.out.ow.a.ok.few (by rw [HCN.out.1]; omega)))
          obtain ⟨L, hL⟩ : ∃ L, allE rsA = L := ⟨_, rfl⟩
          have HLB : Hid (allE rsB = L) := hide (by rw [← HSAME.out, hL])
          rw [hL] at HLEN HEP HSQ
          clear hL HSAME BX3
          go_wp2_with fail
          refine (wpIn_wide (n := 6)).1 ?_
          refine rangeD (t := 59) (encs := encE) (L := L) rfl (by decide) (gf := 23) (lb := #[.pointer (some ⟨x3, 0, none⟩)]) rfl trivial (enters_of Try.func23 (by kernel_rfl) rfl)
            HSQ.out KR.trans KR.book (fun A C h => KR.below h) (fun _ => rfl)
            (fun i V => ∃ lv, R1 w9 V bl lv i L) (fun _ _ _ => False) R1.ownT (fun _ _ _ _ _ h _ _ => h) ⟨_, HC9.out, DOwn.nil _ _, OnlyB.refl _ _, hbl9⟩ ?act1 (fun x g V => Blk V g 24 (u8s x.d)) (fun x g V l r o' hl hx => blk_loop V l r o' hl hx) ?assign1 ?body1 ?done1 ?stop1
          case assign1 =>
            rintro l x V K hx hK
            have hsem := Oper.semAt_some
            simp only [encE]
            have ez : ∀ (t : Array Value) (v u : Value), (Array.zip #[90, 91] #[v, u]).foldl (fun t (x : Tmp × Value) => t.setIfInBounds x.1 x.2) t = (t.setIfInBounds 90 v).setIfInBounds 91 u := fun t v u => by simp
            rw [ez]
            simp only [List.setIfInBounds_toArray, List.set_cons_succ, List.set_cons_zero]
            gi_wp2_with (refine istep_alloc (.round l) zD rfl ?_)
            intro V1 g9 hg9 hle9 hb9'
            gi_wp2_with (refine istep_storeA (.round l) wideD rfl rfl rfl hg9 (by rw [u8s_length, x.hl]) (One.u8 _) rfl ?_)
            intro V2 hg92 hbut9
            have hb92 : Below V.heap.size V V2 := hb9'.trans (hbut9.below hle9)
            have hK2 := hK g9 V2 hb92 hle9 hg92
            clear hK
            gi_wp2
            exact hK2
          case stop1 =>
            rintro D c i V hD hi hx hK
            exact hx.elim
          case body1 =>
            rintro l i x gx V hx hgx hbx ⟨lv, hR⟩
            have hsem := Oper.semAt_some
            have HX := hide hx
            have HR := hide hR
            have hp := HEP.out x (List.mem_of_getElem? hx)
            have hij : i < j := by rw [← HLEN.out]; exact (List.getElem?_eq_some_iff.1 hx).1
            have HXL := hide x.hl
            have HXB := hide x.hb
            obtain ⟨fb, hfb, hf0, hf1⟩ := fstB_in x.hb
            rw [hfb] at hp
            have hbx2 : Blk V gx 24 (u8s x.d) := hbx
            have HBX := hide hbx2
            have c0 : V.cell? ⟨gx, 0, none⟩ = some (.int .u8 fb) := by rw [hbx2.cell, u8s_get _ 0 (by rw [HXL.out]; omega), ← hfb]; rfl
            have cl : V.cell? ⟨bl, 0, none⟩ = some lv := by rw [hR.c.cell]; rfl
            have hfw : IntKind.i64.wrap fb = fb := wrap_in _ (by omega) (by omega)
            have ha0 : (Instr.indexAt 24 (.pointer (some ⟨gx, 0, none⟩)) (.int .i64 0)).run Try.prog = fun W => .ok (.pointer (some ⟨gx, 0, none⟩)) W := by funext W; kernel_rfl
            simp only [hp]
            clear hbx hbx2 hx hR hfb HSQ HEP HLB HO HB2 HL9 HC9
            gi_wp2_with (first | refine istep_loadA (.round l) wideD rfl rfl HBX.out (by rw [u8s_length]; exact HXL.out) ?_ | refine istep_oneD (.round l) rfl rfl HXL.out HXB.out ?_)
            intro V5 g5 hds5 hb5
            have hRo := HR.out.own
            have HC5 := hide (HR.out.c.on hb5)
            have hsz5 := hb5.size
            have hsz9 := HR.out.only.size
            gi_wp2_with (refine istep_appendD (.round l) rfl rfl rfl (hRo.below hb5) hds5 (by omega) (by omega) ?_)
            intro lv2 V6 hown6 hgr6
            obtain ⟨la2, lc2, rfl, _, _⟩ := hown6.ds ((dlB_isB L i).append HXB.out) (by omega)
            have HOW6 := hide hown6
            have HGR6 := hide hgr6
            have HC6 := hide (HC5.out.krD (by decide) (hRo.below hb5) hgr6)
            have c6 : V6.cell? ⟨bl, 0, none⟩ = some lv := by rw [HC6.out.cell]; rfl
            have f6 := HC6.out.free 0
            clear hown6 hgr6 hds5 c0 cl ha0
            gi_wp2
            have hbut := But.setCell V6 bl 0 (.slice la2 (i + 1) lc2)
            refine ⟨((keepsO_below hb5).trans (((hRo.below hb5).keeps HGR6.out).trans (keepsO_but hbut HC6.out))).from _, (KR.below hb5).trans (((hRo.below hb5).krG HGR6.out).trans (KR.but hbut HC6.out (by decide) (by decide))), .slice la2 (i + 1) lc2, ?_⟩
            exact HR.out.put HX.out hb5 HGR6.out HOW6.out hbut (HC6.out.set 0 _)
          case done1 =>
            rintro D1 V1 hD1 ⟨lv, hR1⟩ hk1
            rw [HLEN.out] at hR1
            have HR1 := hide hR1
            have HL11 := hide (HL9.out.onlyT hR1.only HC9.out (by decide) (by decide) (by decide) (by decide) (by decide) hblw)
            obtain ⟨la, lc, rfl, _, _⟩ := hR1.own.ds (dlB_isB L j) (by omega)
            have HM1 : Hid (MK [D1] V1) := hide (fun D hD => by
              have : D = D1 := by simpa using hD
              rw [this]
              exact hk1)
            have hD1w : w.heap.size ≤ D1 := by have := HL9.out.size; omega
            clear hR1 hk1 HL9 HC9 HSQ HEP
            go_wp2_with fail
            have C12 : Blk (V1.alloc (.cells #[.int .i64 0] 3)) V1.heap.size 3 [.int .i64 0] := Blk.made V1 _ _
            have hbI : Below V1.heap.size V1 (V1.alloc (.cells #[.int .i64 0] 3)) := (Below.refl _ _).alloc (Nat.le_refl _) _
            obtain ⟨bi, hbi⟩ : ∃ bi, V1.heap.size = bi := ⟨_, rfl⟩
            have hbiw : w.heap.size ≤ bi := by rw [← hbi]; exact HL11.out.size
            have HW12 : Hid (W2 w (V1.alloc (.cells #[.int .i64 0] 3)) ga gb r0 va ua rsA vb ub rsB (.slice ao j co) j ys bl w9.heap.size (.slice la j lc) (dlB L j) D1) := hide ⟨HL11.out.on hbI, HR1.out.c.on hbI, HR1.out.own.below hbI, HM1.out.on hbI⟩
            clear hbI HL11 HR1 HM1
            revert C12 HW12
            generalize V1.alloc (.cells #[.int .i64 0] 3) = V2
            rw [hbi]
            intro C12 HW12
            clear hbi
            refine (all_mk (some ⟨gb, 0, none⟩) _).mono ?_
            rintro e w10 ⟨x4, rfl, BX4, _, hb10⟩
            have HW := hide (HW12.out.on hb10)
            have HC10 := hide (C12.on hb10)
            have hbi10 : bi < w10.heap.size := HC10.out.lt
            clear HW12 C12 hb10
            have HSQ := hide (alls_seq gb vb ub rsB x4 5 w10 HW.out.lw.ow.b BX4 (HW.out.lw.ow.b.ok.few (by rw [HCN.out.2]; omega)))
            rw [HLB.out] at HSQ
            have hlaj : 0 < j → ∃ bo oo, la = some ⟨bo, oo, none⟩ := fun h => (HW.out.ds (dlB_isB L j) (by omega)).place (by omega)
            have HLA := hide hlaj
            clear HLB BX4 hlaj
            go_wp2_with fail
            refine (wpIn_wide (n := 6)).1 ?_
            refine rangeD (t := 59) (encs := encE) (L := L) rfl (by decide) (gf := 23) (lb := #[.pointer (some ⟨x4, 0, none⟩)]) rfl trivial (enters_of Try.func23 (by kernel_rfl) rfl)
              HSQ.out KR.trans KR.book (fun A C h => KR.below h) (fun _ => rfl)
              (fun i V => R2 w10 V bi i) (fun _ _ _ => False) R2.ownT (fun _ _ _ _ _ h _ _ => h) ⟨HC10.out, OnlyB.refl _ _, hbi10⟩ ?act2 (fun x g V => Blk V g 24 (u8s x.d)) (fun x g V l r o' hl hx => blk_loop V l r o' hl hx) ?assign2 ?body2 ?done2 ?stop2
            case assign2 =>
              rintro l x V K hx hK
              have hsem := Oper.semAt_some
              simp only [encE]
              have ez : ∀ (t : Array Value) (v u : Value), (Array.zip #[103, 104] #[v, u]).foldl (fun t (x : Tmp × Value) => t.setIfInBounds x.1 x.2) t = (t.setIfInBounds 103 v).setIfInBounds 104 u := fun t v u => by simp
              rw [ez]
              simp only [List.setIfInBounds_toArray, List.set_cons_succ, List.set_cons_zero]
              gi_wp2_with (refine istep_alloc (.round l) zD rfl ?_)
              intro V1 g9 hg9 hle9 hb9'
              gi_wp2_with (refine istep_storeA (.round l) wideD rfl rfl rfl hg9 (by rw [u8s_length, x.hl]) (One.u8 _) rfl ?_)
              intro V2 hg92 hbut9
              have hb92 : Below V.heap.size V V2 := hb9'.trans (hbut9.below hle9)
              have hK2 := hK g9 V2 hb92 hle9 hg92
              clear hK
              gi_wp2
              exact hK2
            case stop2 =>
              rintro D c i V hD hi hx hK
              exact hx.elim
            case body2 =>
              rintro l i x gx V hx hgx hbx hR
              have hsem := Oper.semAt_some
              have hij : i < j := by rw [← HLEN.out]; exact (List.getElem?_eq_some_iff.1 hx).1
              obtain ⟨bo, oo, rfl⟩ := HLA.out (by omega)
              have HR := hide hR
              have HWV := hide (HW.out.onlyI hR.only HC10.out hbiw)
              have HXL := hide x.hl
              have HXB := hide x.hb
              have HDT : Hid (dat (dlB L j) i = x.d) := hide (by rw [← HLEN.out]; exact dlB_at hx)
              obtain ⟨d, hd⟩ : ∃ d, x.d = d := ⟨_, rfl⟩
              have hbx2 : Blk V gx 24 (u8s x.d) := hbx
              rw [hd] at HXL HXB HDT hbx2
              have HBX := hide hbx2
              have hu := aDd.und
              have HX1 : Hid ((Try.prog.info? 24).map (·.size) = some (u8s d).length) := hide (by rw [wideD.size, u8s_length, HXL.out])
              have HIX := hide (fun W => d_at bo oo j lc i (i : Int) rfl hij W)
              have HRG : Hid (∀ W : World, Below V.heap.size V W → W.rangeAt bo (oo + 32 * i) (u8s d)) := hide (fun W hW => by
                have := (((HWV.out.on hW).ds (dlB_isB L j) (by omega))).range i hij
                rwa [HDT.out] at this)
              have HRX : Hid (∀ W : World, Below V.heap.size V W → W.rangeAt gx 0 (u8s d)) := hide (fun W hW => (HBX.out.on hW).range 0 _ (by rw [List.drop_zero, List.take_length]))
              have HCI : Hid (∀ W : World, Below V.heap.size V W → W.cell? ⟨bi, 0, none⟩ = some (.int .i64 (i : Int))) := hide (fun W hW => by rw [(HR.out.c.on hW).cell]; rfl)
              have HCL : Hid (∀ W : World, Below V.heap.size V W → W.cell? ⟨bl, 0, none⟩ = some (.slice (some ⟨bo, oo, none⟩) j lc)) := hide (fun W hW => by rw [(HWV.out.cl.on hW).cell]; rfl)
              have hge : ¬ (j : Int) ≤ (i : Int) := by omega
              clear hbx hbx2 hx hR HSQ HW HC10 HLA HDT
              try simp only [hd]
              gi_wp2_with fail
              refine wpIn_region_held (S := fun v => Below V.heap.size V v) (WideF.round l) (by kernel_rfl) (by kernel_rfl) (Below.refl V.heap.size V).drew (fun hHeld => ?_)
              refine takeH 0 105 (.int .i64 (i : Int)) hHeld rfl rfl (by kernel_rfl) (by kernel_rfl) (by kernel_rfl) (fun _ _ _ h => h) (Or.inl ⟨by rfl, fun w hw => by have hw' : w.cell? ⟨bi, 0, none⟩ = some (.int .i64 (i : Int)) := (fun hw => HCI.out _ hw) hw; go_simp⟩) ?_
              simp only [Act.put, List.setIfInBounds_toArray, List.set_cons_zero, List.set_cons_succ]
              refine takeH 1 106 (.slice (some ⟨bo, oo, none⟩) j lc) hHeld rfl rfl (by kernel_rfl) (by kernel_rfl) (by kernel_rfl) (fun _ _ _ h => h) (Or.inl ⟨by rfl, fun w hw => by have hw' : w.cell? ⟨bl, 0, none⟩ = some (.slice (some ⟨bo, oo, none⟩) j lc) := (fun hw => HCL.out _ hw) hw; go_simp⟩) ?_
              simp only [Act.put, List.setIfInBounds_toArray, List.set_cons_zero, List.set_cons_succ]
              refine takeH 2 107 (.int .i64 (j : Int)) hHeld rfl rfl (by kernel_rfl) (by kernel_rfl) (by kernel_rfl) (fun _ _ _ h => h) (Or.inl ⟨by rfl, fun w _ => by go_simp⟩) ?_
              simp only [Act.put, List.setIfInBounds_toArray, List.set_cons_zero, List.set_cons_succ]
              refine takeH 3 108 (.bool false) hHeld rfl rfl (by kernel_rfl) (by kernel_rfl) (by kernel_rfl) (fun _ _ _ h => h) (Or.inl ⟨by rfl, fun w _ => by go_simp⟩) ?_
              simp only [Act.put, List.setIfInBounds_toArray, List.set_cons_zero, List.set_cons_succ]
              refine takeH 4 109 (.bool false) hHeld rfl rfl (by kernel_rfl) (by kernel_rfl) (by kernel_rfl) (fun _ _ _ h => h) (Or.inl ⟨by rfl, fun w _ => by go_simp⟩) ?_
              simp only [Act.put, List.setIfInBounds_toArray, List.set_cons_zero, List.set_cons_succ]
              refine takeH 5 110 (.agg (u8s d).toArray) hHeld rfl rfl (by kernel_rfl) (by kernel_rfl) (by kernel_rfl) (fun _ _ _ h => h) (yieldsIf_load_mid (by rfl) _ _ rfl gx 0 rfl _ _ (fun V h => HRX.out V h) hu rfl HX1.out) ?_
              simp only [Act.put, List.setIfInBounds_toArray, List.set_cons_zero, List.set_cons_succ]
              refine takeH 6 111 (.slice (some ⟨bo, oo, none⟩) j lc) hHeld rfl rfl (by kernel_rfl) (by kernel_rfl) (by kernel_rfl) (fun _ _ _ h => h) (Or.inl ⟨by rfl, fun w hw => by have hw' : w.cell? ⟨bl, 0, none⟩ = some (.slice (some ⟨bo, oo, none⟩) j lc) := (fun hw => HCL.out _ hw) hw; go_simp⟩) ?_
              simp only [Act.put, List.setIfInBounds_toArray, List.set_cons_zero, List.set_cons_succ]
              refine takeH 7 112 (.int .i64 (i : Int)) hHeld rfl rfl (by kernel_rfl) (by kernel_rfl) (by kernel_rfl) (fun _ _ _ h => h) (Or.inl ⟨by rfl, fun w hw => by have hw' : w.cell? ⟨bi, 0, none⟩ = some (.int .i64 (i : Int)) := (fun hw => HCI.out _ hw) hw; go_simp⟩) ?_
              simp only [Act.put, List.setIfInBounds_toArray, List.set_cons_zero, List.set_cons_succ]
              refine takeH 8 113 (.pointer (some ⟨bo, oo + 32 * i, none⟩)) hHeld rfl rfl (by kernel_rfl) (by kernel_rfl) (by kernel_rfl) (fun _ _ _ h => h) (Or.inl ⟨by rfl, fun w _ => run_op rfl (HIX.out w)⟩) ?_
              simp only [Act.put, List.setIfInBounds_toArray, List.set_cons_zero, List.set_cons_succ]
              refine takeH 9 114 (.agg (u8s d).toArray) hHeld rfl rfl (by kernel_rfl) (by kernel_rfl) (by kernel_rfl) (fun _ _ _ h => h) (yieldsIf_load_mid (by rfl) _ _ rfl bo (oo + 32 * i) rfl _ _ (fun V h => HRG.out V h) hu rfl HX1.out) ?_
              simp only [Act.put, List.setIfInBounds_toArray, List.set_cons_zero, List.set_cons_succ]
              refine takeH 10 115 (.bool (!decide (d = d))) hHeld rfl rfl (by kernel_rfl) (by kernel_rfl) (by kernel_rfl) (fun _ _ _ h => h) (Or.inl ⟨by rfl, fun v _ => run_neA aDd _ rfl rfl HXL.out HXL.out⟩) ?_
              simp only [Act.put, List.setIfInBounds_toArray, List.set_cons_zero, List.set_cons_succ]
              refine takeH 11 116 (.bool false) hHeld rfl rfl (by kernel_rfl) (by kernel_rfl) (by kernel_rfl) (fun _ _ _ h => h) (Or.inl ⟨by rfl, fun w _ => by go_simp⟩) ?_
              simp only [Act.put, List.setIfInBounds_toArray, List.set_cons_zero, List.set_cons_succ]
              refine wpAnyH_done (by kernel_rfl) ?_ _
              refine Only.normal ?_
              obtain ⟨Vd, hVd⟩ : ∃ v, V.drew = v := ⟨_, rfl⟩
              rw [hVd] at hHeld ⊢
              clear hVd
              have HRd := hide (HR.out.on hHeld)
              have HHd := hide hHeld
              have ci : Vd.cell? ⟨bi, 0, none⟩ = some (.int .i64 (i : Int)) := HCI.out _ hHeld
              have fi := HRd.out.c.free 0
              clear hHeld HCI HCL HRX HRG HIX
              gi_wp2
              have hbut := But.setCell Vd bi 0 (.int .i64 ((i + 1 : Nat) : Int))
              refine ⟨((keepsO_below HHd.out).trans (keepsO_but hbut HRd.out.c)).from _, (KR.below HHd.out).trans (KR.but hbut HRd.out.c (by decide) (by decide)), ?_⟩
              exact HRd.out.put hbut (HRd.out.c.set 0 _)
            case done2 =>
              rintro D2 V3 hD2 hR hk2
              rw [HLEN.out] at hR
              have HWV := hide (HW.out.onlyI hR.only HC10.out hbiw)
              have HMK : Hid (MK [D2, D1] V3) := hide (mk_cons hk2 HWV.out.mark)
              have hw10 : w.heap.size ≤ w10.heap.size := HW.out.lw.size
              have hD12 : D1 < w10.heap.size := (Array.getElem?_eq_some_iff.1 (HW.out.mark D1 (by simp))).1
              have cI : V3.cell? ⟨bi, 0, none⟩ = some (.int .i64 (j : Int)) := by rw [hR.c.cell]; rfl
              have cL : V3.cell? ⟨bl, 0, none⟩ = some (.slice la j lc) := by rw [HWV.out.cl.cell]; rfl
              have HLE := hide (len_any ga va ua rsA V3 HWV.out.lw.ow.a (by rw [HCN.out.1]; omega))
              rw [HCN.out.1] at HLE
              clear hR hk2 HW HC10 HSQ HLA HCN
              go_wp2_with fail
              refine HLE.out.mono ?_
              rintro e w5 ⟨rfl, hb5⟩
              have HB5 := hide hb5
              have HWE := hide (HWV.out.on hb5)
              have HME := hide (HMK.out.on hb5)
              have cR : w5.cell? ⟨r0, 0, none⟩ = some (.bool false) := by rw [HWE.out.lw.ow.r.cell]; rfl
              have fR := HWE.out.lw.ow.r.free 0
              clear hb5 cI cL HLE
              go_wp2_with fail
              have hbut := But.setCell w5 r0 0 (.bool true)
              have hB6 : Below w.heap.size w (w5.setCell ⟨r0, 0, none⟩ (.bool true)) := HWE.out.lw.ow.bel.trans (hbut.below HWE.out.lw.ow.lr)
              have hR6 : Blk (w5.setCell ⟨r0, 0, none⟩ (.bool true)) r0 4 [.bool true] := HWE.out.lw.ow.r.set 0 _
              have hM6 : MK [D2, D1] (w5.setCell ⟨r0, 0, none⟩ (.bool true)) := HME.out.only (OnlyB.but (Below.refl _ _) hbut) HWE.out.lw.ow.r
              exact (leaves_marks (B := w.heap.size) (J := fun V => Below w.heap.size w V ∧ Blk V r0 4 [.bool true]) (fun V D h hB hD => ⟨h.1.trans (belowK_b (w := w) (Nat.le_refl _) _ D _ (.deferred none) hB hD rfl rfl), by
                  unfold Blk
                  rw [World.putObj_heap_other (fun e => by
                    have h2 := h.2
                    rw [e] at h2
                    unfold Blk at h2
                    rw [hD] at h2
                    cases h2)]
                  exact h.2⟩)
                (fun V h => ⟨.bool true, by
                  have hc : V.cell? ⟨r0, 0, none⟩ = some (.bool true) := by rw [h.2.cell]; rfl
                  simp [results, Try.f6, go_sem, hc], rfl, h.1⟩) [D2, D1] _ (by simp; omega) (fun E hE => by simp at hE; omega) hM6 ⟨hB6, hR6⟩)

end Go.Proofs.Ytabpfbankinojaa
