/-
  Texts one behind the other: DpLaw.
-/
import Derived.Test.YtnkjdoghfdnlaaaPkA
import Derived.Deep.Cut
import Derived.Deep.CutRange
import Derived.Deep.CutBlock

/-
  The walk of DiskPlays.
-/
namespace Go.Proofs.Ytnkjdoghfdnlaaa
open Go.RowKit Go.Shelf
set_option linter.unusedVariables false
set_option linter.unusedSimpArgs false

theorem zAc : Zeroed 33 (acC 0 ByteArray.empty ByteArray.empty (.slice none 0 0) 0 0) := fun _ _ _ _ _ _ _ => by kernel_rfl
theorem Ac.one (x : Ac) : One x.cells := One.ac _ _ _ _ _ _ _ _

set_option maxRecDepth 100000 in
set_option maxHeartbeats 4000000 in
theorem dplays_walk (sec : Int) (a1 : Option Addr) (n1 c1 : Nat) (L : List Ac) (w : World) (hs1 : -9223372036854775808 ≤ sec) (hs2 : sec ≤ 9223372036854775807) (hL : Acts w a1 n1 c1 L) :
    Calls Try.prog 3 #[.int .i64 sec, .slice a1 n1 c1] w fun e w' => e = .returned (.bool true) ∧ Below w.heap.size w w' := by
  by_cases hs : 1 ≤ sec ∧ sec ≤ 4096
  · obtain ⟨s, rfl⟩ : ∃ s : Nat, sec = (s : Int) := ⟨sec.toNat, by omega⟩
    have hsa : 1 ≤ s := by omega
    have hsb : s ≤ 4096 := by omega
    have HL := hide hL
    clear hL hs hs1 hs2
    go_enter Try.func3, Try.ntmps3
    go_wp2_with (go_at_call 7; refine (new_ok _ _ (by omega) (by omega)).mono ?_; rintro e w1 ⟨d, m, rfl, hN⟩)
    refine (newR_ok s _ hsa hsb).mono ?_
    rintro e w2 ⟨r, rfl, hR, hgR, hbR⟩
    have P0 := hide (PL.new hsa hsb hN hR hgR hbR)
    clear hN hR hgR hbR
    go_wp2_with (go_at_call 9; refine (names12_any _).mono ?_; rintro e w2 ⟨rfl, rfl⟩)
    go_loopw [5, 7, 9] (fun p q i wr => ∃ (k d r : Nat) (rs : List Rw) (D : Dm) (R : Rm), p = .pointer (some ⟨d, 0, none⟩) ∧ q = .pointer (some ⟨r, 0, none⟩) ∧ i = .int .i64 (k : Int) ∧ k ≤ L.length ∧ Hid (wt rs ≤ 2 * bulks (L.take k)) ∧ Hid (PL w wr d r s rs D R)) (fun _ _ i _ => L.length - (intOf i).toNat)
    case atStart => exact ⟨0, d, r, [], _, _, rfl, rfl, rfl, Nat.zero_le _, hide (by simp [wt]), P0⟩
    case round =>
      clear P0
      obtain ⟨k, d, r, rs, D, R, rfl, rfl, rfl, hkl, HWT, P⟩ := hrel
      by_cases hlt : k < L.length
      · obtain ⟨x, hx⟩ : ∃ x, L[k]? = some x := ⟨_, List.getElem?_eq_getElem hlt⟩
        obtain ⟨b0, o0, rfl, hrg⟩ := HL.out.hcell k x hx
        have hlen := HL.out.hlen
        have hix := ac_at b0 o0 n1 c1 k (by omega)
        have HRG := hide (rangeAt_below hrg P.out.bel)
        have HXI := hide (HL.out.hin k x hx)
        have HX := hide hx
        have hkb : k ≤ 1048576 := by have h1 := len_bulks L; have h2 := HL.out.hsum; omega
        have HW1 : Hid (wt rs ≤ 2097152) := hide (by have h1 := HWT.out; have h2 := bulks_take L k; have h3 := HL.out.hsum; omega)
        have HWX : Hid (wt rs + 2 * x.xs.length + 2 ≤ 4194304) := hide (by
          have h1 := HWT.out
          have h2 := bulks_succ L k x hx
          have h3 := bulks_take L (k + 1)
          have h4 := HL.out.hsum
          unfold Ac.bulk at h2
          omega)
        have hlti : (k : Int) < (n1 : Int) := by omega
        clear hrg hx hlen
        go_wp2_with (first | (refine step_loadR wAc rfl rfl x.cells HRG.out rfl ?_) | (refine step_alloc zAc rfl ?_))
        intro w8 g10 hr8 hl8 hb8
        go_wp2_with (refine step_storeA wAc rfl rfl rfl hr8 rfl (Ac.one _) rfl ?_)
        intro w9 hg9 hbut9
        have hb9 := hb8.trans (hbut9.below hl8)
        have P9 := hide (P.out.on hb9)
        have GX := hide hg9
        have NF : Hid (¬ Foot d r D R g10) := hide (fun h => by have := P.out.lt h; omega)
        have LG : Hid (w.heap.size ≤ g10) := hide (Nat.le_trans P.out.bel.size hl8)
        clear hr8 hl8 hb8 hg9 hbut9 hb9 hix HRG P
        obtain ⟨kd, HKD⟩ : ∃ kd, Hid (x.k = kd) := ⟨_, hide rfl⟩
        have c0 : w9.cell? ⟨g10, 0, none⟩ = some (.int .i64 kd) := by rw [GX.out.cell, ← HKD.out]; rfl
        go_upto_block 2 with fail
        go_cut [5, 7, 11, 12, 13, 14, 15, 16, 17, 18, 19, 20, 21] from 46 to 219 (fun p q y z _ _ _ _ _ _ _ _ _ W => ∃ (d r : Nat) (rs : List Rw) (D : Dm) (R : Rm) (e : Int), p = .pointer (some ⟨d, 0, none⟩) ∧ q = .pointer (some ⟨r, 0, none⟩) ∧ y = .int .i64 e ∧ z = .int .i64 e ∧ Hid (wt rs ≤ 2 * bulks (L.take (k + 1))) ∧ Hid (PL w W d r s rs D R))
        case first =>
          have HC1 : Hid (∀ v : World, Blk v g10 33 x.cells → v.cell? ⟨g10, 1, none⟩ = some (.string x.n)) := hide (fun v hv => by rw [hv.cell]; rfl)
          have HC2 : Hid (∀ v : World, Blk v g10 33 x.cells → v.cell? ⟨g10, 2, none⟩ = some (.string x.t)) := hide (fun v hv => by rw [hv.cell]; rfl)
          have HC3 : Hid (∀ v : World, Blk v g10 33 x.cells → v.cell? ⟨g10, 3, none⟩ = some (.slice x.a x.l x.c)) := hide (fun v hv => by rw [hv.cell]; rfl)
          have HC4 : Hid (∀ v : World, Blk v g10 33 x.cells → v.cell? ⟨g10, 4, none⟩ = some (.int .i64 x.p)) := hide (fun v hv => by rw [hv.cell]; rfl)
          have HC5 : Hid (∀ v : World, Blk v g10 33 x.cells → v.cell? ⟨g10, 5, none⟩ = some (.int .i64 x.q)) := hide (fun v hv => by rw [hv.cell]; rfl)
          have HACT := hide (wt_act hsa rs x)
          clear c0
          by_cases h0 : kd = 0
          · subst h0
            as_aux_lemma =>
            have WT : Hid (wt (crS rs x.n) ≤ wt rs + 2 * x.bulk) := hide (by have h := HACT.out; rw [actS, if_pos HKD.out] at h; exact h)
            go_wp2_with fail
            refine wp_region_noPanic ?_
            have PD := hide (P9.out.on (Below.refl w9.heap.size w9).drew)
            refine wp_region_held_drew (S := fun v : World => Blk v g10 33 x.cells) (by kernel_rfl) (GX.out.on (Below.refl w9.heap.size w9).drew) (fun hHeld => ?_)
            refine takeH 0 64 (.pointer (some ⟨d, 0, none⟩)) hHeld rfl rfl (by kernel_rfl) (by kernel_rfl) (by kernel_rfl) (fun _ _ _ h => h) (Or.inl ⟨by rfl, fun w _ => by go_simp⟩) ?_
            simp only [Act.put, List.setIfInBounds_toArray, List.set_cons_zero, List.set_cons_succ]
            refine takeH 1 65 (.pointer (some ⟨g10, 1, none⟩)) hHeld rfl rfl (by kernel_rfl) (by kernel_rfl) (by kernel_rfl) (fun _ _ _ h => h) (Or.inl ⟨by rfl, fun w _ => by go_simp⟩) ?_
            simp only [Act.put, List.setIfInBounds_toArray, List.set_cons_zero, List.set_cons_succ]
            refine takeH 2 66 (.string x.n) hHeld rfl rfl (by kernel_rfl) (by kernel_rfl) (by kernel_rfl) (fun _ _ _ h => h) (Or.inl ⟨by rfl, fun w hw => by have hw' : w.cell? ⟨g10, 1, none⟩ = some (.string x.n) := (HC1.out w) hw; go_simp⟩) ?_
            simp only [Act.put, List.setIfInBounds_toArray, List.set_cons_zero, List.set_cons_succ]
            refine takeH 4 68 (.pointer (some ⟨r, 0, none⟩)) hHeld rfl rfl (by kernel_rfl) (by kernel_rfl) (by kernel_rfl) (fun _ _ _ h => h) (Or.inl ⟨by rfl, fun w _ => by go_simp⟩) ?_
            simp only [Act.put, List.setIfInBounds_toArray, List.set_cons_zero, List.set_cons_succ]
            refine takeH 5 69 (.pointer (some ⟨g10, 1, none⟩)) hHeld rfl rfl (by kernel_rfl) (by kernel_rfl) (by kernel_rfl) (fun _ _ _ h => h) (Or.inl ⟨by rfl, fun w _ => by go_simp⟩) ?_
            simp only [Act.put, List.setIfInBounds_toArray, List.set_cons_zero, List.set_cons_succ]
            refine takeH 6 70 (.string x.n) hHeld rfl rfl (by kernel_rfl) (by kernel_rfl) (by kernel_rfl) (fun _ _ _ h => h) (Or.inl ⟨by rfl, fun w hw => by have hw' : w.cell? ⟨g10, 1, none⟩ = some (.string x.n) := (HC1.out w) hw; go_simp⟩) ?_
            simp only [Act.put, List.setIfInBounds_toArray, List.set_cons_zero, List.set_cons_succ]
            refine wpAnyH_ready (rs := [3]) (by kernel_rfl) (by simp) (AllReadyH.cons rfl (fun K hK => ?_) AllReadyH.nil)
            rw [if_pos (by rfl)]
            go_simp
            refine (create_any d s rs D _ PD.out.dk x.n (by have := HW1.out; omega)).mono ?_
            rintro e wa ⟨rfl, hop⟩
            have HOP := hide hop
            have GA := hide (PD.out.keep1 hop hHeld NF.out)
            clear hop
            refine hK.out _ _ GA.out (fun hHeld => ?_)
            clear hK K
            try simp only [Act.put, List.setIfInBounds_toArray, List.set_cons_zero, List.set_cons_succ]
            refine wpAnyH_ready (rs := [7]) (by kernel_rfl) (by simp) (AllReadyH.cons rfl (fun K hK => ?_) AllReadyH.nil)
            rw [if_pos (by rfl)]
            go_simp
            refine (createR_any r s rs R _ (PD.out.op1 HOP.out) x.n (by have := HW1.out; omega)).mono ?_
            rintro e wb ⟨rfl, hrp⟩
            have GB := hide (PL.keep2 hrp GA.out NF.out)
            refine hK.out _ _ GB.out (fun hHeld => ?_)
            clear hK K
            try simp only [Act.put, List.setIfInBounds_toArray, List.set_cons_zero, List.set_cons_succ]
            refine takeH 8 11 (.int .i64 (crE rs x.n)) hHeld rfl rfl (by kernel_rfl) (by kernel_rfl) (by kernel_rfl) (fun _ _ _ h => h) (Or.inl ⟨by rfl, fun w _ => by go_simp⟩) ?_
            simp only [Act.put, List.setIfInBounds_toArray, List.set_cons_zero, List.set_cons_succ]
            refine takeH 9 12 (.int .i64 (crE rs x.n)) hHeld rfl rfl (by kernel_rfl) (by kernel_rfl) (by kernel_rfl) (fun _ _ _ h => h) (Or.inl ⟨by rfl, fun w _ => by go_simp⟩) ?_
            simp only [Act.put, List.setIfInBounds_toArray, List.set_cons_zero, List.set_cons_succ]
            have HFIN := hide (PD.out.both HOP.out hrp)
            refine wpAnyH_done (by kernel_rfl) ?_ _
            refine NoPanic.normal ?_
            obtain ⟨D', R', hp', hft⟩ := HFIN.out
            have PN := hide hp'
            have WN := hide (bulks_at HX.out _ _ HWT.out WT.out)
            clear hp' hft HFIN HOP hrp
            go_wp2_with fail
            go_meet
            case rel => exact ⟨d, r, _, D', R', _, rfl, rfl, rfl, rfl, WN, PN⟩
          by_cases h1 : kd = 1
          · subst h1
            as_aux_lemma =>
            have WT : Hid (wt (apS s rs x.n x.xs) ≤ wt rs + 2 * x.bulk) := hide (by have h := HACT.out; rw [actS, if_neg (by rw [HKD.out]; decide), if_pos HKD.out] at h; exact h)
            have ho0 : Own (w9.alloc (.cells #[] 5)) w9.heap.size (.slice (some ⟨w9.heap.size, 0, none⟩) 0 0) [] := Own.of_blk (xs := []) (Blk.made w9 5 []) (Nat.le_refl _) (by simp)
            have hb0 : Below w9.heap.size w9 (w9.alloc (.cells #[] 5)) := (Below.refl _ _).alloc (Nat.le_refl _) _
            have HO0 := hide ho0
            have HB0 := hide hb0
            have c3 := HC3.out _ (GX.out.on hb0)
            have HSX : Hid (Sl (w9.alloc (.cells #[] 5)) x.a x.l x.c x.xs) := hide ((HXI.out.sl.below P9.out.bel).below hb0)
            have HSM : Hid (([] : List Int).length + x.l ≤ 140737488355328) := hide (by have := HXI.out.sl.hreach; simpa using this)
            clear ho0 hb0
            go_wp2_with (refine step_append rfl rfl rfl HO0.out HSX.out HSM.out (by simp) ?_)
            intro v13 w10 ho1 hg1 hn1
            have hb1 : Below w9.heap.size w9 w10 := HB0.out.trans (Below.of_grown hg1 HB0.out.size HO0.out.lt)
            rw [List.nil_append] at ho1
            obtain ⟨a13, c13, rfl, s13⟩ := ho1.sl' HXI.out.sl.hbyte (by rw [HXI.out.sl.hlen]; exact HXI.out.sl.hreach)
            have P10 := hide (P9.out.on hb1)
            have G10 := hide (GX.out.on hb1)
            have O13 := hide ho1
            have S13 := hide s13
            have L13 : Hid (∀ j, (Value.slice a13 x.xs.length c13).ownBlock = some j → w.heap.size ≤ j ∧ j < w10.heap.size ∧ ¬ Foot d r D R j) := hide (fun j hj => by
              have h1 := ho1.lt j hj
              have h2 := P9.out.bel.size
              obtain ⟨cs, hc⟩ := ho1.lies hj
              exact ⟨by omega, hc.lt, fun hf => by have := P9.out.lt hf; omega⟩)
            clear ho1 hg1 hn1 hb1 s13 c3 HO0 HB0 HSX HSM
            go_wp2_with fail
            refine wp_region_noPanic ?_
            have PD := hide (P10.out.on (Below.refl w10.heap.size w10).drew)
            refine wp_region_held_drew (S := fun v : World => Blk v g10 33 x.cells) (by kernel_rfl) (G10.out.on (Below.refl w10.heap.size w10).drew) (fun hHeld => ?_)
            refine takeH 0 78 (.pointer (some ⟨d, 0, none⟩)) hHeld rfl rfl (by kernel_rfl) (by kernel_rfl) (by kernel_rfl) (fun _ _ _ h => h) (Or.inl ⟨by rfl, fun w _ => by go_simp⟩) ?_
            simp only [Act.put, List.setIfInBounds_toArray, List.set_cons_zero, List.set_cons_succ]
            refine takeH 1 79 (.pointer (some ⟨g10, 1, none⟩)) hHeld rfl rfl (by kernel_rfl) (by kernel_rfl) (by kernel_rfl) (fun _ _ _ h => h) (Or.inl ⟨by rfl, fun w _ => by go_simp⟩) ?_
            simp only [Act.put, List.setIfInBounds_toArray, List.set_cons_zero, List.set_cons_succ]
            refine takeH 2 80 (.string x.n) hHeld rfl rfl (by kernel_rfl) (by kernel_rfl) (by kernel_rfl) (fun _ _ _ h => h) (Or.inl ⟨by rfl, fun w hw => by have hw' : w.cell? ⟨g10, 1, none⟩ = some (.string x.n) := (HC1.out w) hw; go_simp⟩) ?_
            simp only [Act.put, List.setIfInBounds_toArray, List.set_cons_zero, List.set_cons_succ]
            refine takeH 3 81 (.slice a13 x.xs.length c13) hHeld rfl rfl (by kernel_rfl) (by kernel_rfl) (by kernel_rfl) (fun _ _ _ h => h) (Or.inl ⟨by rfl, fun w _ => by go_simp⟩) ?_
            simp only [Act.put, List.setIfInBounds_toArray, List.set_cons_zero, List.set_cons_succ]
            refine takeH 5 83 (.pointer (some ⟨r, 0, none⟩)) hHeld rfl rfl (by kernel_rfl) (by kernel_rfl) (by kernel_rfl) (fun _ _ _ h => h) (Or.inl ⟨by rfl, fun w _ => by go_simp⟩) ?_
            simp only [Act.put, List.setIfInBounds_toArray, List.set_cons_zero, List.set_cons_succ]
            refine takeH 6 84 (.pointer (some ⟨g10, 1, none⟩)) hHeld rfl rfl (by kernel_rfl) (by kernel_rfl) (by kernel_rfl) (fun _ _ _ h => h) (Or.inl ⟨by rfl, fun w _ => by go_simp⟩) ?_
            simp only [Act.put, List.setIfInBounds_toArray, List.set_cons_zero, List.set_cons_succ]
            refine takeH 7 85 (.string x.n) hHeld rfl rfl (by kernel_rfl) (by kernel_rfl) (by kernel_rfl) (fun _ _ _ h => h) (Or.inl ⟨by rfl, fun w hw => by have hw' : w.cell? ⟨g10, 1, none⟩ = some (.string x.n) := (HC1.out w) hw; go_simp⟩) ?_
            simp only [Act.put, List.setIfInBounds_toArray, List.set_cons_zero, List.set_cons_succ]
            refine takeH 8 86 (.pointer (some ⟨g10, 3, none⟩)) hHeld rfl rfl (by kernel_rfl) (by kernel_rfl) (by kernel_rfl) (fun _ _ _ h => h) (Or.inl ⟨by rfl, fun w _ => by go_simp⟩) ?_
            simp only [Act.put, List.setIfInBounds_toArray, List.set_cons_zero, List.set_cons_succ]
            refine takeH 9 87 (.slice x.a x.l x.c) hHeld rfl rfl (by kernel_rfl) (by kernel_rfl) (by kernel_rfl) (fun _ _ _ h => h) (Or.inl ⟨by rfl, fun w hw => by have hw' : w.cell? ⟨g10, 3, none⟩ = some (.slice x.a x.l x.c) := (HC3.out w) hw; go_simp⟩) ?_
            simp only [Act.put, List.setIfInBounds_toArray, List.set_cons_zero, List.set_cons_succ]
            refine wpAnyH_ready (rs := [4]) (by kernel_rfl) (by simp) (AllReadyH.cons rfl (fun K hK => ?_) AllReadyH.nil)
            rw [if_pos (by rfl)]
            go_simp
            refine (append_any d s rs D _ PD.out.dk x.n _ _ _ x.xs (S13.out.below (Below.refl w10.heap.size w10).drew) (by have := HW1.out; have := HWX.out; omega)).mono ?_
            rintro e wa ⟨rfl, hop⟩
            have HOP := hide hop
            have GA := hide (PD.out.keep1 hop hHeld NF.out)
            clear hop
            refine hK.out _ _ GA.out (fun hHeld => ?_)
            clear hK K
            try simp only [Act.put, List.setIfInBounds_toArray, List.set_cons_zero, List.set_cons_succ]
            have HOFF : Hid (x.xs ≠ [] → ∀ y, x.a = some y → ¬ R.own r y.block ∧ y.block < wa.heap.size) := hide (fun hne y hy => by
              have h0 : 0 < x.l := by rw [← HXI.out.sl.hlen]; exact List.length_pos_iff.2 hne
              have h1 := HXI.out.sl.lt h0 y hy
              have h2 := (PD.out.bel1 HOP.out).size
              exact ⟨fun h => by have := PD.out.oq _ h; omega, by omega⟩)
            refine wpAnyH_ready (rs := [10]) (by kernel_rfl) (by simp) (AllReadyH.cons rfl (fun K hK => ?_) AllReadyH.nil)
            rw [if_pos (by rfl)]
            go_simp
            refine (appendR_any r s rs R _ (PD.out.op1 HOP.out) x.n _ _ _ x.xs (HXI.out.sl.below (PD.out.bel1 HOP.out)) HOFF.out (by have := HW1.out; have := HWX.out; omega)).mono ?_
            rintro e wb ⟨rfl, hrp⟩
            have GB := hide (PL.keep2 hrp GA.out NF.out)
            refine hK.out _ _ GB.out (fun hHeld => ?_)
            clear hK K
            try simp only [Act.put, List.setIfInBounds_toArray, List.set_cons_zero, List.set_cons_succ]
            refine takeH 11 11 (.int .i64 (fE rs x.n)) hHeld rfl rfl (by kernel_rfl) (by kernel_rfl) (by kernel_rfl) (fun _ _ _ h => h) (Or.inl ⟨by rfl, fun w _ => by go_simp⟩) ?_
            simp only [Act.put, List.setIfInBounds_toArray, List.set_cons_zero, List.set_cons_succ]
            refine takeH 12 12 (.int .i64 (fE rs x.n)) hHeld rfl rfl (by kernel_rfl) (by kernel_rfl) (by kernel_rfl) (fun _ _ _ h => h) (Or.inl ⟨by rfl, fun w _ => by go_simp⟩) ?_
            simp only [Act.put, List.setIfInBounds_toArray, List.set_cons_zero, List.set_cons_succ]
            have HFIN := hide (PD.out.both HOP.out hrp)
            have O2 := hide (PD.out.ownKeep HOP.out hrp (O13.out.below (Below.refl w10.heap.size w10).drew) (fun j hj => (L13.out j hj).2.2))
            refine wpAnyH_done (by kernel_rfl) ?_ _
            refine NoPanic.normal ?_
            obtain ⟨D', R', hp', hft⟩ := HFIN.out
            have PM := hide hp'
            have HFT : Hid (∀ j, (Value.slice a13 x.xs.length c13).ownBlock = some j → w.heap.size ≤ j ∧ ¬ Foot d r D' R' j) := hide (fun j hj => by
              obtain ⟨q1, q2, q3⟩ := L13.out j hj
              refine ⟨q1, fun hf => ?_⟩
              rcases hft j hf with h | h
              · exact q3 h
              · have : w10.drew.heap.size = w10.heap.size := rfl
                omega)
            have WN := hide (bulks_at HX.out _ _ HWT.out WT.out)
            have HSL : Hid (x.xs.length ≤ 281474976710656) := hide (by have := HXI.out.sl.hreach; have := HXI.out.sl.hlen; omega)
            clear hp' hft HFIN HOP hrp O13 S13 L13 HOFF
            go_wp2_with fail
            refine (spoilL_any _ x.xs _ _ O2.out HSL.out).mono ?_
            rintro _ wc ⟨rfl, hsp⟩
            have PN : Hid (PL w wc d r s (apS s rs x.n x.xs) D' R') := hide (by
              rcases hsp with rfl | ⟨g1, hg1, hbut⟩
              · exact PM.out
              · exact PM.out.but hbut (HFT.out g1 hg1).1 (HFT.out g1 hg1).2)
            clear hsp O2 PM HFT
            go_wp2_with fail
            go_meet
            case rel => exact ⟨d, r, _, D', R', _, rfl, rfl, rfl, rfl, WN, PN⟩
          by_cases h2 : kd = 2
          · subst h2
            as_aux_lemma =>
            have WT : Hid (wt (cuS rs x.n x.p) ≤ wt rs + 2 * x.bulk) := hide (by have h := HACT.out; rw [actS, if_neg (by rw [HKD.out]; decide), if_neg (by rw [HKD.out]; decide), if_pos HKD.out] at h; exact h)
            go_wp2_with fail
            refine wp_region_noPanic ?_
            have PD := hide (P9.out.on (Below.refl w9.heap.size w9).drew)
            refine wp_region_held_drew (S := fun v : World => Blk v g10 33 x.cells) (by kernel_rfl) (GX.out.on (Below.refl w9.heap.size w9).drew) (fun hHeld => ?_)
            refine takeH 0 93 (.pointer (some ⟨d, 0, none⟩)) hHeld rfl rfl (by kernel_rfl) (by kernel_rfl) (by kernel_rfl) (fun _ _ _ h => h) (Or.inl ⟨by rfl, fun w _ => by go_simp⟩) ?_
            simp only [Act.put, List.setIfInBounds_toArray, List.set_cons_zero, List.set_cons_succ]
            refine takeH 1 94 (.pointer (some ⟨g10, 1, none⟩)) hHeld rfl rfl (by kernel_rfl) (by kernel_rfl) (by kernel_rfl) (fun _ _ _ h => h) (Or.inl ⟨by rfl, fun w _ => by go_simp⟩) ?_
            simp only [Act.put, List.setIfInBounds_toArray, List.set_cons_zero, List.set_cons_succ]
            refine takeH 2 95 (.string x.n) hHeld rfl rfl (by kernel_rfl) (by kernel_rfl) (by kernel_rfl) (fun _ _ _ h => h) (Or.inl ⟨by rfl, fun w hw => by have hw' : w.cell? ⟨g10, 1, none⟩ = some (.string x.n) := (HC1.out w) hw; go_simp⟩) ?_
            simp only [Act.put, List.setIfInBounds_toArray, List.set_cons_zero, List.set_cons_succ]
            refine takeH 3 96 (.pointer (some ⟨g10, 4, none⟩)) hHeld rfl rfl (by kernel_rfl) (by kernel_rfl) (by kernel_rfl) (fun _ _ _ h => h) (Or.inl ⟨by rfl, fun w _ => by go_simp⟩) ?_
            simp only [Act.put, List.setIfInBounds_toArray, List.set_cons_zero, List.set_cons_succ]
            refine takeH 4 97 (.int .i64 x.p) hHeld rfl rfl (by kernel_rfl) (by kernel_rfl) (by kernel_rfl) (fun _ _ _ h => h) (Or.inl ⟨by rfl, fun w hw => by have hw' : w.cell? ⟨g10, 4, none⟩ = some (.int .i64 x.p) := (HC4.out w) hw; go_simp⟩) ?_
            simp only [Act.put, List.setIfInBounds_toArray, List.set_cons_zero, List.set_cons_succ]
            refine takeH 6 99 (.pointer (some ⟨r, 0, none⟩)) hHeld rfl rfl (by kernel_rfl) (by kernel_rfl) (by kernel_rfl) (fun _ _ _ h => h) (Or.inl ⟨by rfl, fun w _ => by go_simp⟩) ?_
            simp only [Act.put, List.setIfInBounds_toArray, List.set_cons_zero, List.set_cons_succ]
            refine takeH 7 100 (.pointer (some ⟨g10, 1, none⟩)) hHeld rfl rfl (by kernel_rfl) (by kernel_rfl) (by kernel_rfl) (fun _ _ _ h => h) (Or.inl ⟨by rfl, fun w _ => by go_simp⟩) ?_
            simp only [Act.put, List.setIfInBounds_toArray, List.set_cons_zero, List.set_cons_succ]
            refine takeH 8 101 (.string x.n) hHeld rfl rfl (by kernel_rfl) (by kernel_rfl) (by kernel_rfl) (fun _ _ _ h => h) (Or.inl ⟨by rfl, fun w hw => by have hw' : w.cell? ⟨g10, 1, none⟩ = some (.string x.n) := (HC1.out w) hw; go_simp⟩) ?_
            simp only [Act.put, List.setIfInBounds_toArray, List.set_cons_zero, List.set_cons_succ]
            refine takeH 9 102 (.pointer (some ⟨g10, 4, none⟩)) hHeld rfl rfl (by kernel_rfl) (by kernel_rfl) (by kernel_rfl) (fun _ _ _ h => h) (Or.inl ⟨by rfl, fun w _ => by go_simp⟩) ?_
            simp only [Act.put, List.setIfInBounds_toArray, List.set_cons_zero, List.set_cons_succ]
            refine takeH 10 103 (.int .i64 x.p) hHeld rfl rfl (by kernel_rfl) (by kernel_rfl) (by kernel_rfl) (fun _ _ _ h => h) (Or.inl ⟨by rfl, fun w hw => by have hw' : w.cell? ⟨g10, 4, none⟩ = some (.int .i64 x.p) := (HC4.out w) hw; go_simp⟩) ?_
            simp only [Act.put, List.setIfInBounds_toArray, List.set_cons_zero, List.set_cons_succ]
            refine wpAnyH_ready (rs := [5]) (by kernel_rfl) (by simp) (AllReadyH.cons rfl (fun K hK => ?_) AllReadyH.nil)
            rw [if_pos (by rfl)]
            go_simp
            refine (cut_any d s rs D _ PD.out.dk x.n x.p (by have := HW1.out; have := HWX.out; omega)).mono ?_
            rintro e wa ⟨rfl, hop⟩
            have HOP := hide hop
            have GA := hide (PD.out.keep1 hop hHeld NF.out)
            clear hop
            refine hK.out _ _ GA.out (fun hHeld => ?_)
            clear hK K
            try simp only [Act.put, List.setIfInBounds_toArray, List.set_cons_zero, List.set_cons_succ]
            refine wpAnyH_ready (rs := [11]) (by kernel_rfl) (by simp) (AllReadyH.cons rfl (fun K hK => ?_) AllReadyH.nil)
            rw [if_pos (by rfl)]
            go_simp
            refine (cutR_any r s rs R _ (PD.out.op1 HOP.out) x.n x.p (by have := HW1.out; have := HWX.out; omega)).mono ?_
            rintro e wb ⟨rfl, hrp⟩
            have GB := hide (PL.keep2 hrp GA.out NF.out)
            refine hK.out _ _ GB.out (fun hHeld => ?_)
            clear hK K
            try simp only [Act.put, List.setIfInBounds_toArray, List.set_cons_zero, List.set_cons_succ]
            refine takeH 12 11 (.int .i64 (cuE rs x.n x.p)) hHeld rfl rfl (by kernel_rfl) (by kernel_rfl) (by kernel_rfl) (fun _ _ _ h => h) (Or.inl ⟨by rfl, fun w _ => by go_simp⟩) ?_
            simp only [Act.put, List.setIfInBounds_toArray, List.set_cons_zero, List.set_cons_succ]
            refine takeH 13 12 (.int .i64 (cuE rs x.n x.p)) hHeld rfl rfl (by kernel_rfl) (by kernel_rfl) (by kernel_rfl) (fun _ _ _ h => h) (Or.inl ⟨by rfl, fun w _ => by go_simp⟩) ?_
            simp only [Act.put, List.setIfInBounds_toArray, List.set_cons_zero, List.set_cons_succ]
            have HFIN := hide (PD.out.both HOP.out hrp)
            refine wpAnyH_done (by kernel_rfl) ?_ _
            refine NoPanic.normal ?_
            obtain ⟨D', R', hp', hft⟩ := HFIN.out
            have PN := hide hp'
            have WN := hide (bulks_at HX.out _ _ HWT.out WT.out)
            clear hp' hft HFIN HOP hrp
            go_wp2_with fail
            go_meet
            case rel => exact ⟨d, r, _, D', R', _, rfl, rfl, rfl, rfl, WN, PN⟩
          by_cases h3 : kd = 3
          · subst h3
            as_aux_lemma =>
            have WT : Hid (wt (rmS rs x.n) ≤ wt rs + 2 * x.bulk) := hide (by have h := HACT.out; rw [actS, if_neg (by rw [HKD.out]; decide), if_neg (by rw [HKD.out]; decide), if_neg (by rw [HKD.out]; decide), if_pos HKD.out] at h; exact h)
            go_wp2_with fail
            refine wp_region_noPanic ?_
            have PD := hide (P9.out.on (Below.refl w9.heap.size w9).drew)
            refine wp_region_held_drew (S := fun v : World => Blk v g10 33 x.cells) (by kernel_rfl) (GX.out.on (Below.refl w9.heap.size w9).drew) (fun hHeld => ?_)
            refine takeH 0 107 (.pointer (some ⟨d, 0, none⟩)) hHeld rfl rfl (by kernel_rfl) (by kernel_rfl) (by kernel_rfl) (fun _ _ _ h => h) (Or.inl ⟨by rfl, fun w _ => by go_simp⟩) ?_
            simp only [Act.put, List.setIfInBounds_toArray, List.set_cons_zero, List.set_cons_succ]
            refine takeH 1 108 (.pointer (some ⟨g10, 1, none⟩)) hHeld rfl rfl (by kernel_rfl) (by kernel_rfl) (by kernel_rfl) (fun _ _ _ h => h) (Or.inl ⟨by rfl, fun w _ => by go_simp⟩) ?_
            simp only [Act.put, List.setIfInBounds_toArray, List.set_cons_zero, List.set_cons_succ]
            refine takeH 2 109 (.string x.n) hHeld rfl rfl (by kernel_rfl) (by kernel_rfl) (by kernel_rfl) (fun _ _ _ h => h) (Or.inl ⟨by rfl, fun w hw => by have hw' : w.cell? ⟨g10, 1, none⟩ = some (.string x.n) := (HC1.out w) hw; go_simp⟩) ?_
            simp only [Act.put, List.setIfInBounds_toArray, List.set_cons_zero, List.set_cons_succ]
            refine takeH 4 111 (.pointer (some ⟨r, 0, none⟩)) hHeld rfl rfl (by kernel_rfl) (by kernel_rfl) (by kernel_rfl) (fun _ _ _ h => h) (Or.inl ⟨by rfl, fun w _ => by go_simp⟩) ?_
            simp only [Act.put, List.setIfInBounds_toArray, List.set_cons_zero, List.set_cons_succ]
            refine takeH 5 112 (.pointer (some ⟨g10, 1, none⟩)) hHeld rfl rfl (by kernel_rfl) (by kernel_rfl) (by kernel_rfl) (fun _ _ _ h => h) (Or.inl ⟨by rfl, fun w _ => by go_simp⟩) ?_
            simp only [Act.put, List.setIfInBounds_toArray, List.set_cons_zero, List.set_cons_succ]
            refine takeH 6 113 (.string x.n) hHeld rfl rfl (by kernel_rfl) (by kernel_rfl) (by kernel_rfl) (fun _ _ _ h => h) (Or.inl ⟨by rfl, fun w hw => by have hw' : w.cell? ⟨g10, 1, none⟩ = some (.string x.n) := (HC1.out w) hw; go_simp⟩) ?_
            simp only [Act.put, List.setIfInBounds_toArray, List.set_cons_zero, List.set_cons_succ]
            refine wpAnyH_ready (rs := [3]) (by kernel_rfl) (by simp) (AllReadyH.cons rfl (fun K hK => ?_) AllReadyH.nil)
            rw [if_pos (by rfl)]
            go_simp
            refine (remove_any d s rs D _ PD.out.dk x.n (by have := HW1.out; have := HWX.out; omega)).mono ?_
            rintro e wa ⟨rfl, hop⟩
            have HOP := hide hop
            have GA := hide (PD.out.keep1 hop hHeld NF.out)
            clear hop
            refine hK.out _ _ GA.out (fun hHeld => ?_)
            clear hK K
            try simp only [Act.put, List.setIfInBounds_toArray, List.set_cons_zero, List.set_cons_succ]
            refine wpAnyH_ready (rs := [7]) (by kernel_rfl) (by simp) (AllReadyH.cons rfl (fun K hK => ?_) AllReadyH.nil)
            rw [if_pos (by rfl)]
            go_simp
            refine (removeR_any r s rs R _ (PD.out.op1 HOP.out) x.n (by have := HW1.out; have := HWX.out; omega)).mono ?_
            rintro e wb ⟨rfl, hrp⟩
            have GB := hide (PL.keep2 hrp GA.out NF.out)
            refine hK.out _ _ GB.out (fun hHeld => ?_)
            clear hK K
            try simp only [Act.put, List.setIfInBounds_toArray, List.set_cons_zero, List.set_cons_succ]
            refine takeH 8 11 (.int .i64 (fE rs x.n)) hHeld rfl rfl (by kernel_rfl) (by kernel_rfl) (by kernel_rfl) (fun _ _ _ h => h) (Or.inl ⟨by rfl, fun w _ => by go_simp⟩) ?_
            simp only [Act.put, List.setIfInBounds_toArray, List.set_cons_zero, List.set_cons_succ]
            refine takeH 9 12 (.int .i64 (fE rs x.n)) hHeld rfl rfl (by kernel_rfl) (by kernel_rfl) (by kernel_rfl) (fun _ _ _ h => h) (Or.inl ⟨by rfl, fun w _ => by go_simp⟩) ?_
            simp only [Act.put, List.setIfInBounds_toArray, List.set_cons_zero, List.set_cons_succ]
            have HFIN := hide (PD.out.both HOP.out hrp)
            refine wpAnyH_done (by kernel_rfl) ?_ _
            refine NoPanic.normal ?_
            obtain ⟨D', R', hp', hft⟩ := HFIN.out
            have PN := hide hp'
            have WN := hide (bulks_at HX.out _ _ HWT.out WT.out)
            clear hp' hft HFIN HOP hrp
            go_wp2_with fail
            go_meet
            case rel => exact ⟨d, r, _, D', R', _, rfl, rfl, rfl, rfl, WN, PN⟩
          by_cases h4 : kd = 4
          · subst h4
            as_aux_lemma =>
            have WT : Hid (wt (rnS rs x.n x.t) ≤ wt rs + 2 * x.bulk) := hide (by have h := HACT.out; rw [actS, if_neg (by rw [HKD.out]; decide), if_neg (by rw [HKD.out]; decide), if_neg (by rw [HKD.out]; decide), if_neg (by rw [HKD.out]; decide), if_pos HKD.out] at h; exact h)
            go_wp2_with fail
            refine wp_region_noPanic ?_
            have PD := hide (P9.out.on (Below.refl w9.heap.size w9).drew)
            refine wp_region_held_drew (S := fun v : World => Blk v g10 33 x.cells) (by kernel_rfl) (GX.out.on (Below.refl w9.heap.size w9).drew) (fun hHeld => ?_)
            refine takeH 0 117 (.pointer (some ⟨d, 0, none⟩)) hHeld rfl rfl (by kernel_rfl) (by kernel_rfl) (by kernel_rfl) (fun _ _ _ h => h) (Or.inl ⟨by rfl, fun w _ => by go_simp⟩) ?_
            simp only [Act.put, List.setIfInBounds_toArray, List.set_cons_zero, List.set_cons_succ]
            refine takeH 1 118 (.pointer (some ⟨g10, 1, none⟩)) hHeld rfl rfl (by kernel_rfl) (by kernel_rfl) (by kernel_rfl) (fun _ _ _ h => h) (Or.inl ⟨by rfl, fun w _ => by go_simp⟩) ?_
            simp only [Act.put, List.setIfInBounds_toArray, List.set_cons_zero, List.set_cons_succ]
            refine takeH 2 119 (.string x.n) hHeld rfl rfl (by kernel_rfl) (by kernel_rfl) (by kernel_rfl) (fun _ _ _ h => h) (Or.inl ⟨by rfl, fun w hw => by have hw' : w.cell? ⟨g10, 1, none⟩ = some (.string x.n) := (HC1.out w) hw; go_simp⟩) ?_
            simp only [Act.put, List.setIfInBounds_toArray, List.set_cons_zero, List.set_cons_succ]
            refine takeH 3 120 (.pointer (some ⟨g10, 2, none⟩)) hHeld rfl rfl (by kernel_rfl) (by kernel_rfl) (by kernel_rfl) (fun _ _ _ h => h) (Or.inl ⟨by rfl, fun w _ => by go_simp⟩) ?_
            simp only [Act.put, List.setIfInBounds_toArray, List.set_cons_zero, List.set_cons_succ]
            refine takeH 4 121 (.string x.t) hHeld rfl rfl (by kernel_rfl) (by kernel_rfl) (by kernel_rfl) (fun _ _ _ h => h) (Or.inl ⟨by rfl, fun w hw => by have hw' : w.cell? ⟨g10, 2, none⟩ = some (.string x.t) := (HC2.out w) hw; go_simp⟩) ?_
            simp only [Act.put, List.setIfInBounds_toArray, List.set_cons_zero, List.set_cons_succ]
            refine takeH 6 123 (.pointer (some ⟨r, 0, none⟩)) hHeld rfl rfl (by kernel_rfl) (by kernel_rfl) (by kernel_rfl) (fun _ _ _ h => h) (Or.inl ⟨by rfl, fun w _ => by go_simp⟩) ?_
            simp only [Act.put, List.setIfInBounds_toArray, List.set_cons_zero, List.set_cons_succ]
            refine takeH 7 124 (.pointer (some ⟨g10, 1, none⟩)) hHeld rfl rfl (by kernel_rfl) (by kernel_rfl) (by kernel_rfl) (fun _ _ _ h => h) (Or.inl ⟨by rfl, fun w _ => by go_simp⟩) ?_
            simp only [Act.put, List.setIfInBounds_toArray, List.set_cons_zero, List.set_cons_succ]
            refine takeH 8 125 (.string x.n) hHeld rfl rfl (by kernel_rfl) (by kernel_rfl) (by kernel_rfl) (fun _ _ _ h => h) (Or.inl ⟨by rfl, fun w hw => by have hw' : w.cell? ⟨g10, 1, none⟩ = some (.string x.n) := (HC1.out w) hw; go_simp⟩) ?_
            simp only [Act.put, List.setIfInBounds_toArray, List.set_cons_zero, List.set_cons_succ]
            refine takeH 9 126 (.pointer (some ⟨g10, 2, none⟩)) hHeld rfl rfl (by kernel_rfl) (by kernel_rfl) (by kernel_rfl) (fun _ _ _ h => h) (Or.inl ⟨by rfl, fun w _ => by go_simp⟩) ?_
            simp only [Act.put, List.setIfInBounds_toArray, List.set_cons_zero, List.set_cons_succ]
            refine takeH 10 127 (.string x.t) hHeld rfl rfl (by kernel_rfl) (by kernel_rfl) (by kernel_rfl) (fun _ _ _ h => h) (Or.inl ⟨by rfl, fun w hw => by have hw' : w.cell? ⟨g10, 2, none⟩ = some (.string x.t) := (HC2.out w) hw; go_simp⟩) ?_
            simp only [Act.put, List.setIfInBounds_toArray, List.set_cons_zero, List.set_cons_succ]
            refine wpAnyH_ready (rs := [5]) (by kernel_rfl) (by simp) (AllReadyH.cons rfl (fun K hK => ?_) AllReadyH.nil)
            rw [if_pos (by rfl)]
            go_simp
            refine (rename_any d s rs D _ PD.out.dk x.n x.t (by have := HW1.out; have := HWX.out; omega)).mono ?_
            rintro e wa ⟨rfl, hop⟩
            have HOP := hide hop
            have GA := hide (PD.out.keep1 hop hHeld NF.out)
            clear hop
            refine hK.out _ _ GA.out (fun hHeld => ?_)
            clear hK K
            try simp only [Act.put, List.setIfInBounds_toArray, List.set_cons_zero, List.set_cons_succ]
            refine wpAnyH_ready (rs := [11]) (by kernel_rfl) (by simp) (AllReadyH.cons rfl (fun K hK => ?_) AllReadyH.nil)
            rw [if_pos (by rfl)]
            go_simp
            refine (renameR_any r s rs R _ (PD.out.op1 HOP.out) x.n x.t (by have := HW1.out; have := HWX.out; omega)).mono ?_
            rintro e wb ⟨rfl, hrp⟩
            have GB := hide (PL.keep2 hrp GA.out NF.out)
            refine hK.out _ _ GB.out (fun hHeld => ?_)
            clear hK K
            try simp only [Act.put, List.setIfInBounds_toArray, List.set_cons_zero, List.set_cons_succ]
            refine takeH 12 11 (.int .i64 (rnE rs x.n x.t)) hHeld rfl rfl (by kernel_rfl) (by kernel_rfl) (by kernel_rfl) (fun _ _ _ h => h) (Or.inl ⟨by rfl, fun w _ => by go_simp⟩) ?_
            simp only [Act.put, List.setIfInBounds_toArray, List.set_cons_zero, List.set_cons_succ]
            refine takeH 13 12 (.int .i64 (rnE rs x.n x.t)) hHeld rfl rfl (by kernel_rfl) (by kernel_rfl) (by kernel_rfl) (fun _ _ _ h => h) (Or.inl ⟨by rfl, fun w _ => by go_simp⟩) ?_
            simp only [Act.put, List.setIfInBounds_toArray, List.set_cons_zero, List.set_cons_succ]
            have HFIN := hide (PD.out.both HOP.out hrp)
            refine wpAnyH_done (by kernel_rfl) ?_ _
            refine NoPanic.normal ?_
            obtain ⟨D', R', hp', hft⟩ := HFIN.out
            have PN := hide hp'
            have WN := hide (bulks_at HX.out _ _ HWT.out WT.out)
            clear hp' hft HFIN HOP hrp
            go_wp2_with fail
            go_meet
            case rel => exact ⟨d, r, _, D', R', _, rfl, rfl, rfl, rfl, WN, PN⟩
          have WN : Hid (wt rs ≤ 2 * bulks (L.take (k + 1))) := hide (bulks_at HX.out rs rs HWT.out (by omega))
          by_cases h5 : kd = 5
          · subst h5
            as_aux_lemma =>
            have k1 := HC1.out _ GX.out
            have k4 := HC4.out _ GX.out
            have k5 := HC5.out _ GX.out
            go_wp2_with fail
            refine (read_any d s rs D _ P9.out.dk x.n x.p x.q (by have := HW1.out; omega)).mono ?_
            rintro _ wa ⟨v, rfl, ho, hb⟩
            obtain ⟨hib, hil⟩ := P9.out.rq x.n x.p x.q (by have := HW1.out; omega)
            obtain ⟨a14, c14, rfl, s14⟩ := ho.sl' hib hil
            have S14 := hide s14
            have PA := hide (P9.out.on hb)
            have GA := hide (GX.out.on hb)
            clear k1 k4 k5 ho hb hib hil s14
            have k1 := HC1.out _ GA.out
            have k4 := HC4.out _ GA.out
            have k5 := HC5.out _ GA.out
            go_wp2_with fail
            refine (readR_any r s rs R _ PA.out.rk x.n x.p x.q (by have := HW1.out; omega)).mono ?_
            rintro _ wb ⟨rfl, hb⟩
            have hcv := toStr (S14.out.below hb)
            have PB := hide (PA.out.on hb)
            clear k1 k4 k5 hb
            revert hcv
            generalize str (rqB rs x.n x.p x.q) = X
            generalize (rqB rs x.n x.p x.q).length = l14
            generalize rqE rs x.n x.p x.q = E
            intro hcv
            clear S14
            go_wp2_with fail
            go_meet
            case rel => exact ⟨d, r, rs, D, R, E, rfl, rfl, rfl, rfl, WN, PB⟩
          by_cases h6 : kd = 6
          · subst h6
            as_aux_lemma =>
            obtain ⟨q, hq⟩ : ∃ q, x.q = q := ⟨_, rfl⟩
            have k5 := HC5.out _ GX.out
            rw [hq] at k5
            by_cases hqq : q < 0 ∨ (rs.length : Int) < q
            · have HQ := hide hqq
              clear hqq hq
              go_wp2_with fail
              refine (after_bad d s rs D _ P9.out.dk q HQ.out).mono ?_
              rintro _ w9 ⟨rfl, rfl⟩
              go_wp2_with fail
              refine (afterR_bad r s rs R _ P9.out.rk q HQ.out).mono ?_
              rintro _ w9 ⟨rfl, rfl⟩
              go_wp2_with fail
              go_meet
              case rel => exact ⟨d, r, rs, D, R, 0, rfl, rfl, rfl, rfl, WN, P9⟩
            · obtain ⟨m, rfl⟩ : ∃ m : Nat, q = (m : Int) := ⟨q.toNat, by omega⟩
              have HM : Hid (m ≤ rs.length) := hide (by omega)
              have K5 : Hid (∀ v : World, Blk v g10 33 x.cells → v.cell? ⟨g10, 5, none⟩ = some (.int .i64 (m : Int))) := hide (fun v hv => by rw [← hq]; exact HC5.out v hv)
              clear hqq hq
              go_wp2_with fail
              refine (after_any d s rs D _ P9.out.dk m HM.out (by have := HW1.out; omega)).mono ?_
              rintro _ wa ⟨o, Do, rfl, hA⟩
              have HA := hide hA
              have PA := hide (P9.out.on hA.bel)
              clear k5
              have k5 := K5.out _ (GX.out.on hA.bel)
              clear hA
              go_wp2_with fail
              refine (afterR_any r s rs R _ PA.out.rk m HM.out (by have := HW1.out; omega)).mono ?_
              rintro _ wb ⟨v, R', rfl, hB⟩
              have PN := hide (P9.out.after HA.out hB)
              have PO := hide (PA.out.on hB.bel)
              have WM : Hid (wt (rs.take m) ≤ 2097152) := hide (Nat.le_trans (wt_take rs m) HW1.out)
              have WN2 : Hid (wt (rs.take m) ≤ 2 * bulks (L.take (k + 1))) := hide (Nat.le_trans (wt_take rs m) WN.out)
              clear k5 hB PA HA K5 HM
              revert PN WM WN2
              generalize rs.take m = rm
              intro PN WM WN2
              obtain ⟨b, HBB⟩ : ∃ b : Bool, Hid (b = true ↔ play rs = play rm) := by
                by_cases h : play rs = play rm
                · exact ⟨true, hide (by simp [h])⟩
                · exact ⟨false, hide (by simp [h])⟩
              go_wp2_with fail
              refine (same_any d o s s rs rm D Do b _ PO.out.dk PN.out.dk (by have := HW1.out; omega) (by have := WM.out; omega) HBB.out).mono ?_
              rintro _ wc ⟨rfl, hbc⟩
              replace PO := hide (PO.out.on hbc)
              replace PN := hide (PN.out.on hbc)
              clear hbc
              go_wp2_with fail
              refine (sameR_any r v s s rs rm R R' b _ PO.out.rk PN.out.rk (by have := HW1.out; omega) (by have := WM.out; omega) HBB.out).mono ?_
              rintro _ wd ⟨rfl, hbd⟩
              replace PO := hide (PO.out.on hbd)
              replace PN := hide (PN.out.on hbd)
              clear hbd
              go_wp2_with fail
              refine (same_any o d s s rm rs Do D b _ PN.out.dk PO.out.dk (by have := WM.out; omega) (by have := HW1.out; omega) (HBB.out.trans eq_comm)).mono ?_
              rintro _ we ⟨rfl, hbe⟩
              replace PO := hide (PO.out.on hbe)
              replace PN := hide (PN.out.on hbe)
              clear hbe
              go_wp2_with fail
              refine (sameR_any r v s s rs rm R R' b _ PO.out.rk PN.out.rk (by have := HW1.out; omega) (by have := WM.out; omega) HBB.out).mono ?_
              rintro _ wf ⟨rfl, hbf⟩
              replace PN := hide (PN.out.on hbf)
              clear hbf PO
              go_wp2_with fail
              refine (stands_any o v s rm Do R' _ PN.out.dk PN.out.rk (by have := WM.out; omega)).mono ?_
              rintro _ wg ⟨rfl, hbg⟩
              replace PN := hide (PN.out.on hbg)
              clear hbg
              go_wp2_with fail
              go_meet
              case rel => exact ⟨o, v, rm, Do, R', 0, rfl, rfl, rfl, rfl, WN2, PN⟩
          go_wp2_with fail
          go_meet
          case rel => exact ⟨d, r, rs, D, R, 0, rfl, rfl, rfl, rfl, WN, P9⟩
        case rest =>
          as_aux_lemma =>
          obtain ⟨d, r, rs, D, R, e, rfl, rfl, rfl, rfl, HWT2, P2⟩ := hcut
          have HW4 : Hid (wt rs ≤ 4194304) := hide (by have h1 := HWT2.out; have h2 := bulks_take L (k + 1); have h3 := HL.out.hsum; omega)
          clear HWT P9 GX NF LG c0 HW1 HWX HXI
          go_wp2_with fail
          refine (stands_any d r s rs D R _ P2.out.dk P2.out.rk HW4.out).mono ?_
          rintro _ w3 ⟨rfl, hb3⟩
          have P3 := hide (P2.out.on hb3)
          clear hb3 P2
          go_wp2
          go_roundw
          case rel => exact ⟨k + 1, d, r, rs, D, R, rfl, rfl, by go_num, by omega, HWT2, P3⟩
          case measure => simp [intOf]; omega
      · have hkl2 : k = L.length := by omega
        have hlen := HL.out.hlen
        have hlti : ¬ (k : Int) < (n1 : Int) := by omega
        have BB := hide P.out.bel
        clear hkl2 hlen P
        go_wp2
        go_ret
        exact ⟨rfl, BB.out⟩
  · have HH := hide hs
    clear hs hL
    go_enter Try.func3, Try.ntmps3
    go_wp2_with (go_at_call 7; refine (new_bad _ _ HH.out).mono ?_; rintro e w ⟨rfl, rfl⟩)
    refine (newR_bad _ _ (by have := HH.out; omega)).mono ?_
    rintro e w ⟨rfl, rfl⟩
    go_wp2_with (go_at_call 9; refine (names12_any _).mono ?_; rintro e w ⟨rfl, rfl⟩)
    go_loopw [5, 7, 9] (fun p q i wr => p = .pointer none ∧ q = .pointer none ∧ i = .int .i64 0 ∧ w = wr) (fun _ _ i _ => 0)
    case atStart => exact ⟨rfl, rfl, rfl, rfl⟩
    case round =>
      obtain ⟨rfl, rfl, rfl, rfl⟩ := hrel
      by_cases hn : (0 : Int) < (n1 : Int)
      · go_wp2
        go_ret
        exact ⟨rfl, Below.refl _ _⟩
      · go_wp2
        go_ret
        exact ⟨rfl, Below.refl _ _⟩

end Go.Proofs.Ytnkjdoghfdnlaaa
