/-
  The walk of CompactTree.
-/
import Derived.Test.YthgfbcndoedacaaDoorTt
namespace Go.Proofs.YthgfbcndoedacaaDoor
open Go.RowKit Go.Shelf
set_option linter.unusedVariables false

set_option maxRecDepth 100000 in
set_option maxHeartbeats 1000000 in
theorem ctree_walk (a : Option Addr) (n cap : Nat) (xs : List Int) (x : Int) (w : World) (hs : Ds w a n cap xs) (hc : cap ≤ 1048576) (hw : (Lit.int .i64 x).wf = true) (hk : KT w) :
    Calls Tryd.prog 6 #[.slice a n cap, .int .i64 x] w fun e w' => e = .returned (.bool true) ∧ Below w.heap.size w w' := by
  have HS := hide hs
  have HK := hide hk
  have hcap := hs.hcap
  obtain ⟨r0, b, e1, e2, e3, hb, e4⟩ := aux_mod x (n + 1) (by omega) (by omega)
  have hn1 : ¬ ((n : Int) + 1 = 0) := by omega
  have hwn : wrap64 ((n : Int) + 1) = (n : Int) + 1 := by unfold wrap64; omega
  rw [show ((n + 1 : Nat) : Int) = (n : Int) + 1 by omega] at e1 e2 e3
  clear hs hk
  refine (callsIn_wide (n := 3)).1 ?_
  refine callsIn_of_wp_marks Tryd.func6 rfl trivial ?_ rfl
  refine wpIn_wide.2 ?_
  simp only [Tryd.ntmps6, List.size_toArray, List.length_cons, List.length_nil, Nat.reduceAdd, Nat.reduceSub, Array.replicate_succ, Array.replicate_zero, List.push_toArray, List.append_toArray, List.nil_append, List.cons_append]
  go_wp2_with fail
  have cl0 := (Blk.made w 27 [.slice a n cap])
  have cb0 := (Blk.made (w.alloc (.cells #[.slice a n cap] 27)) 4 [.bool false])
  have cl1 : Blk ((w.alloc (.cells #[.slice a n cap] 27)).alloc (.cells #[.bool false] 4)) w.heap.size 27 [.slice a n cap] := cl0.below ((Below.refl _ _).alloc (Nat.le_refl _) _) cl0.lt
  have B0 : Below w.heap.size w ((w.alloc (.cells #[.slice a n cap] 27)).alloc (.cells #[.bool false] 4)) := ((Below.refl _ w).alloc (Nat.le_refl _) _).alloc (by simp) _
  have cb1 : Blk ((w.alloc (.cells #[.slice a n cap] 27)).alloc (.cells #[.bool false] 4)) (w.heap.size + 1) 4 [.bool false] := by have := cb0; rwa [World.size_alloc] at this
  clear cl0 cb0
  revert cl1 cb1 B0
  generalize (w.alloc (.cells #[.slice a n cap] 27)).alloc (.cells #[.bool false] 4) = W0
  intro cl1 B0 cb1
  have hbn : b ≤ n := by omega
  have hn20 : n ≤ 1048576 := by omega
  refine (ranged_any a n cap b n _ _ xs _ (HS.out.below B0) rfl rfl hbn (Nat.le_refl _) (by omega) (HK.out.below B0 HK.out.lt)).mono ?_
  rintro r W1 ⟨g, v, rfl, hrg, hleg, hb1⟩
  have cl2 := cl1.below hb1 cl1.lt
  have d0 : W1.cell? ⟨w.heap.size, 0, none⟩ = some (.slice a n cap) := by rw [cl2.cell]; rfl
  have B1 := B0.trans (hb1.mono B0.size)
  have HCB := hide (cb1.below hb1 cb1.lt)
  have HCL := hide cl2
  have HRG := hide hrg
  have HB1 := hide B1
  clear cl1 cb1 B0 cl2 hrg B1 e1 e2 e3 e4 hwn hn1 hb1
  go_wp2_with fail
  refine (ranged_any a n cap 0 n _ _ xs _ (HS.out.below HB1.out) rfl rfl (Nat.zero_le _) (Nat.le_refl _) (by omega) (HK.out.below HB1.out HK.out.lt)).mono ?_
  rintro r W2 ⟨g2, v2, rfl, hrg2, hleg2, hb2⟩
  have HCB2 := hide (HCB.out.below hb2 HCB.out.lt)
  have HCL2 := hide (HCL.out.below hb2 HCL.out.lt)
  have HRG2 := hide (HRG.out.below hb2)
  have HRA := hide hrg2
  have HB2 := hide (HB1.out.trans (hb2.mono HB1.out.size))
  have hs1 := hb2.size
  clear hrg2 HCB HCL HRG HB1 hb2 d0
  go_wp2_with fail
  have ca0 : Blk (W2.alloc (.cells #[.int .i64 (b : Int)] 3)) W2.heap.size 3 [.int .i64 (b : Int)] := Blk.made _ _ _
  have hba : Below W2.heap.size W2 (W2.alloc (.cells #[.int .i64 (b : Int)] 3)) := (Below.refl _ _).alloc (Nat.le_refl _) _
  have T0 : TS w (W2.alloc (.cells #[.int .i64 (b : Int)] 3)) w.heap.size (w.heap.size + 1) W2.heap.size a n cap (pbeg b n 0) W1.heap.size g2 v2 xs :=
    ⟨HCL2.out.below hba HCL2.out.lt, HCB2.out.below hba HCB2.out.lt, by rw [pbeg_zero]; exact ca0, HB2.out.trans (hba.mono HB2.out.size), HRA.out.below hba⟩
  have R0 := HRG2.out.below hba
  have hga : w.heap.size ≤ W2.heap.size := HB2.out.size
  clear ca0 HCL2 HCB2 HRA HRG2 hba HB2
  revert T0 R0 hga
  generalize W2.alloc (.cells #[.int .i64 (b : Int)] 3) = W3
  generalize W2.heap.size = ga
  intro T0 R0 hga
  refine (all_any _ _).mono ?_
  rintro r W5 ⟨rfl, rfl⟩
  have hbA : Below W3.heap.size W3 (W3.alloc (.cells #[.pointer (some ⟨g, 0, none⟩)] 23)) := (Below.refl _ _).alloc (Nat.le_refl _) _
  have T1 := T0.below hbA
  have R1 := R0.below hbA
  clear T0 R0
  revert T1 R1 hbA
  generalize W3.alloc (.cells #[.pointer (some ⟨g, 0, none⟩)] 23) = W4
  generalize W3.heap.size = bx0
  intro hbA T1 R1
  have heq : ∀ v : World, (binOp BinOp.eql 57 (.func (.func 41) #[] #[.pointer (some ⟨bx0, 0, none⟩)]) .nilFunc).run Tryd.prog v = .ok (.bool false) v := fun v => by kernel_rfl
  go_wp2_with fail
  refine (all_any _ _).mono ?_
  rintro r W5 ⟨rfl, rfl⟩
  have hbB : Below W4.heap.size W4 (W4.alloc (.cells #[.pointer (some ⟨g, 0, none⟩)] 23)) := (Below.refl _ _).alloc (Nat.le_refl _) _
  have BX : Blk (W4.alloc (.cells #[.pointer (some ⟨g, 0, none⟩)] 23)) W4.heap.size 23 [.pointer (some ⟨g, 0, none⟩)] := Blk.made _ _ _
  have T2 := T1.below hbB
  have R2 := R1.below hbB
  clear T1 R1 hbA heq
  revert T2 R2 hbB BX
  generalize W4.alloc (.cells #[.pointer (some ⟨g, 0, none⟩)] 23) = W5
  generalize W4.heap.size = bx
  intro hbB BX T2 R2
  have HT := hide T2
  have HR := hide R2
  have hws := T2.bel.size
  have HN := hide (show (rps xs b n).length = (parts b n).length by unfold rps; simp)
  have hga5 : ga < W5.heap.size := T2.ca.lt
  clear T2 R2 hbB
  go_wp2_with fail
  refine (wpIn_wide (n := 3)).1 ?_
  refine range2 rfl (by decide) (gf := 41) (lb := #[.pointer (some ⟨bx, 0, none⟩)]) rfl trivial (enters_of Tryd.func41 (by kernel_rfl) rfl)
    (all_stops _ g b n v (rps xs b n) bx W5.heap.size W5 BX.lt (Nat.le_refl _) (by rw [BX.cell]; rfl) HR.out _ (Mine.one hga5)) KM.trans (KM.book (Mine.one hga5) (Nat.le_refl _)) (fun A B h hb => km_below (Mine.one hga5) h hb) (fun _ => rfl)
    (fun pre W => (pre = List.range pre.length ∧ pre.length ≤ (rps xs b n).length) ∧ TS w W w.heap.size (w.heap.size + 1) ga a n cap (pbeg b n pre.length) W1.heap.size g2 v2 xs ∧ W5.heap.size ≤ W.heap.size)
    (fun c pre _ => c = .ret ∧ ¬ pre <+: List.range (rps xs b n).length)
    (fun _ A B row h hg hr => ⟨h.1, h.2.1.kept hg (fun r e => ⟨by have := (hr r e).1; omega, (hr r e).2⟩), Nat.le_trans h.2.2 hg.size⟩)
    (fun _ _ h => h.2.2) (fun c _ A B row h hg hr => h)
    ⟨⟨rfl, Nat.zero_le _⟩, HT.out, Nat.le_refl _⟩ 67 34 (fun x => nC (pG (rps xs b n) x).1) (fun x => u8s (pG (rps xs b n) x).2) ?act ?assign ?body ?done ?stop
  case assign =>
    rintro l x W K hK
    have hsem := Oper.semAt_some
    have HLx := hide (show (u8s (pG (rps xs b n) x).2).length = 32 by rw [u8s_length, (pG_good HR.out.good x).len])
    gi_wp2_with (refine istep_alloc (.round l) zNd rfl ?_)
    intro V1 g9 hg9 hle9 hb9
    gi_wp2_with (refine istep_storeA (.round l) wNd rfl rfl rfl hg9 rfl (One.nC _) rfl ?_)
    intro V2 hg92 hbut9
    gi_wp2_with (refine istep_alloc (.round l) zD rfl ?_)
    intro V3 g10 hg10 hle10 hb10
    gi_wp2_with (refine istep_storeA (.round l) wD rfl rfl rfl hg10 HLx.out (One.u8 _) rfl ?_)
    intro V4 hg104 hbut10
    have hb92 : Below W.heap.size W V2 := hb9.trans (hbut9.below hle9)
    have hb104 : Below V2.heap.size V2 V4 := hb10.trans (hbut10.below hle10)
    have hK2 := hK g9 g10 V4 (hb92.trans (hb104.mono hb92.size)) (hg92.below hb104 hg92.lt) hg104
    clear hK
    gi_wp2
    exact hK2
  case stop =>
    rintro D c pre W hD hSp ⟨rfl, hn⟩ hK
    exact absurd hSp hn
  case body =>
    rintro l pre x g9 g10 W ⟨⟨hp, hpl⟩, hT, hsz⟩ hg9 hg10 hlt
    have hsem := Oper.semAt_some
    have HP := hide hp
    obtain ⟨k, HPL⟩ : ∃ k, Hid (pre.length = k) := ⟨_, hide rfl⟩
    rw [HPL.out] at hT hlt hpl
    have HT1 := hide hT
    have HG9 := hide hg9
    have HG10 := hide hg10
    have ca : W.cell? ⟨ga, 0, none⟩ = some (.int .i64 (pbeg b n k : Int)) := by rw [hT.ca.cell]; rfl
    have fa : W.frozen? ⟨ga, 0, none⟩ = false := hT.ca.free 0
    have fb : W.frozen? ⟨w.heap.size + 1, 0, none⟩ = false := hT.cb.free 0
    have cb : W.cell? ⟨w.heap.size + 1, 0, none⟩ = some (.bool false) := by rw [hT.cb.cell]; rfl
    have n0 : W.cell? ⟨g9, 0, none⟩ = some (.int .i64 ((pG (rps xs b n) x).1.1 : Int)) := by rw [hg9.cell]; rfl
    have n1 : W.cell? ⟨g9, 1, none⟩ = some (.int .i64 ((pG (rps xs b n) x).1.2 : Int)) := by rw [hg9.cell]; rfl
    clear hp hT hg9 hg10
    by_cases hx : x < (rps xs b n).length
    · obtain ⟨⟨L, i⟩, hq⟩ : ∃ q, (parts b n)[x]? = some q := ⟨_, List.getElem?_eq_getElem (by rw [← HN.out]; exact hx)⟩
      have HE : Hid (pG (rps xs b n) x = ((L, i), rd xs (L, i))) := hide (by
        unfold pG
        rw [if_pos hx]
        simp only [pAt, List.getD, rps, List.getElem?_map, hq]
        rfl)
      obtain ⟨s, P, u, HSx, HPW, HUx, HSh, HU, hun, hsu, ⟨hl0, hl1⟩, hsh, hpw, had⟩ := part_facts b n x L i hbn hn20 hq
      rw [HE.out] at n0 n1 HG9 HG10
      have HQ := hide hq
      clear hq
      simp only at n0 n1
      by_cases hxk : x = k
      · subst hxk
        rw [HSx.out] at ca HT1
        have HT2 := hide (HT1.out.set u hga)
        have hbutA := But.setCell W ga 0 (.int .i64 (u : Int))
        have HG92 := hide (HG9.out.but hbutA (HG9.out.apart HT1.out.ca (by decide)))
        have HG102 := hide (HG10.out.but hbutA (HG10.out.apart HT1.out.ca (by decide)))
        have z1 : (W.setCell ⟨ga, 0, none⟩ (.int .i64 (u : Int))).cell? ⟨w.heap.size, 0, none⟩ = some (.slice a n cap) := by rw [HT2.out.cl.cell]; rfl
        have z2 : (W.setCell ⟨ga, 0, none⟩ (.int .i64 (u : Int))).cell? ⟨g9, 0, none⟩ = some (.int .i64 (L : Int)) := by rw [HG92.out.cell]; rfl
        have z3 : (W.setCell ⟨ga, 0, none⟩ (.int .i64 (u : Int))).cell? ⟨g9, 1, none⟩ = some (.int .i64 (i : Int)) := by rw [HG92.out.cell]; rfl
        have z4 : (W.setCell ⟨ga, 0, none⟩ (.int .i64 (u : Int))).cell? ⟨ga, 0, none⟩ = some (.int .i64 (u : Int)) := by rw [HT2.out.ca.cell]; rfl
        have HRD : Hid (rd xs (L, i) = root (sub xs s u)) := hide (by
          unfold rd
          simp only
          rw [Nat.add_mul, HSh.out, HPW.out, Nat.one_mul, ← HU.out])
        have hsz2 : W5.heap.size ≤ (W.setCell ⟨ga, 0, none⟩ (.int .i64 (u : Int))).heap.size := by rw [hbutA.size]; exact hsz
        have HKK := hide (km_one hbutA HT1.out.ca.lt)
        have HKO := hide (KeepsOthers.setCell W ⟨ga, 0, none⟩ (.int .i64 (u : Int)))
        have HI2 : Hid (∀ V, TS w V w.heap.size (w.heap.size + 1) ga a n cap u W1.heap.size g2 v2 xs → W5.heap.size ≤ V.heap.size → (pre ++ [x] = List.range (pre ++ [x]).length ∧ (pre ++ [x]).length ≤ (rps xs b n).length) ∧ TS w V w.heap.size (w.heap.size + 1) ga a n cap (pbeg b n (pre ++ [x]).length) W1.heap.size g2 v2 xs ∧ W5.heap.size ≤ V.heap.size) := hide (fun V hV hz => by
          have e1 : (pre ++ [x]).length = x + 1 := by rw [List.length_append, HPL.out]; rfl
          rw [e1, HUx.out]
          exact ⟨⟨range_snoc HP.out HPL.out, hx⟩, hV, hz⟩)
        clear hbutA HG9 HT1 HE HSx HPW HUx HSh HP HPL
        gi_wp2_with fail
        refine ⟨trivial, (calls_round (.round l) (sub_any a n cap (s : Int) (u : Int) xs _ (HS.out.below HT2.out.bel) (HK.out.below HT2.out.bel HK.out.lt))).mono ?_⟩
        rintro r V1 ⟨rfl, hv1⟩
        have HV1 := hide hv1
        have HT3 := hide (HT2.out.below hv1)
        have HG103 := hide (HG102.out.below hv1 HG102.out.lt)
        obtain ⟨ED, EE⟩ := sub_told xs n s u hsu hun
        rw [ED, EE]
        clear ED EE hv1 z1 z2 z3 z4 HG92 HG102
        have HRL := hide (root_length (sub_length HS.out.hlen (Nat.le_of_lt hsu) hun) (sub_isB HS.out.hbyte s u))
        have HUL := hide (show (u8s (root (sub xs s u))).length = 32 by rw [u8s_length, HRL.out])
        gi_wp2_with (refine istep_alloc (.round l) zD rfl ?_)
        intro V2 g11 hg11 hle11 hb11
        gi_wp2_with (refine istep_storeA (.round l) wD rfl rfl rfl hg11 HUL.out (One.u8 _) rfl ?_)
        intro V3 hg113 hbut11
        have hv3 : Below V1.heap.size V1 V3 := hb11.trans (hbut11.below hle11)
        have HG113 := hide hg113
        have HG104 := hide (show Blk V3 g10 34 (u8s (root (sub xs s u))) by
          have h7 := HG103.out.below hv3 HG103.out.lt
          rwa [HRD.out] at h7)
        have HV3 := hide (HV1.out.trans (hv3.mono HV1.out.size))
        clear hg11 hb11 hg113 hbut11 hv3 HG103
        gi_wp2_with (first | (refine istep_loadA (.round l) wD rfl rfl HG113.out HUL.out ?_) | (refine istep_loadA (.round l) wD rfl rfl HG104.out HUL.out ?_) | (refine istep_run (.round l) (fun c => by simp) rfl _ _ (run_neT aD _ rfl rfl HRL.out) ?_))
        exact ⟨(HKO.out.trans (keepsO_below HV3.out)).from _, KM.trans HKK.out (km_below (Mine.one hga5) hsz2 HV3.out), HI2.out _ (HT2.out.below HV3.out) (Nat.le_trans hsz2 HV3.out.size)⟩
      · obtain ⟨s', HS'⟩ : ∃ s', Hid (pbeg b n k = s') := ⟨_, hide rfl⟩
        have h9 := pbeg_ne (b := b) (e := n) hxk (by rw [← HN.out]; exact Nat.le_of_lt hx) (by rw [← HN.out]; exact hpl)
        rw [HSx.out, HS'.out] at h9
        rw [HS'.out] at ca
        have hne := ne_cast h9
        have HNP := hide (not_pre HPL.out hlt hxk)
        clear h9 HE HSx HPW HUx HSh hpw had hsu hun
        gi_wp2
        exact ⟨(KeepsOthers.setCell _ _ _).from _, rfl, HNP.out⟩
    · have HE : Hid (pG (rps xs b n) x = ((49, 0), zer 32)) := hide (by unfold pG; rw [if_neg hx])
      rw [HE.out] at n0 n1
      simp only at n0 n1
      have hnp : ¬ (pre ++ [x]) <+: List.range (rps xs b n).length := by
        intro h
        have := h.subset (List.mem_append_right pre (List.mem_singleton.2 rfl))
        rw [List.mem_range] at this
        exact hx this
      have HNP := hide hnp
      clear hnp
      gi_wp2
      exact ⟨(KeepsOthers.setCell _ _ _).from _, rfl, HNP.out⟩
  case done =>
    rintro D ys W hD rfl ⟨_, hT, hsz⟩ hKd
    rw [List.length_range, HN.out, pbeg_end hbn (Nat.le_trans hn20 (by decide))] at hT
    have HT1 := hide hT
    have HKd := hide hKd
    have HER := hide (rf_root HS.out.hlen (Nat.le_trans hn20 (by decide)))
    have HRL := hide (root_length HS.out.hlen HS.out.hbyte)
    have HUL := hide (show (u8s (root xs)).length = 32 by rw [u8s_length, HRL.out])
    clear hT hKd
    go_wp2_with fail
    refine (rroot_any _ g2 n v2 (rps xs 0 n) _ HT1.out.rg (HK.out.below HT1.out.bel HK.out.lt)).mono ?_
    rintro r V1 ⟨rfl, hv1⟩
    rw [HER.out]
    have HV1 := hide hv1
    clear hv1
    go_wp2_with (refine step_alloc zD rfl ?_)
    intro V2 g13 hg13 hle13 hb13
    go_wp2_with (refine step_storeA wD rfl rfl rfl hg13 HUL.out (One.u8 _) rfl ?_)
    intro V3 hg133 hbut13
    have hv3 : Below V1.heap.size V1 V3 := hb13.trans (hbut13.below hle13)
    have HV3 := hide (HV1.out.trans (hv3.mono HV1.out.size))
    have HT3 := hide (HT1.out.below HV3.out)
    have HG13 := hide hg133
    have HKd3 : Hid (V3.heap[D]? = some (.deferred (some []))) := hide ((HV3.out.block D (Array.getElem?_eq_some_iff.1 HKd.out).1).trans HKd.out)
    have z1 : V3.cell? ⟨w.heap.size, 0, none⟩ = some (.slice a n cap) := by rw [HT3.out.cl.cell]; rfl
    have z4 : V3.cell? ⟨ga, 0, none⟩ = some (.int .i64 (n : Int)) := by rw [HT3.out.ca.cell]; rfl
    clear hg13 hb13 hg133 hbut13 hv3
    obtain ⟨dD, huD, hdD⟩ := wD.und
    have HS2 : ∀ V : World, TS w V w.heap.size (w.heap.size + 1) ga a n cap n W1.heap.size g2 v2 xs → Blk V g13 34 (u8s (root xs)) → V.cell? ⟨ga, 0, none⟩ = some (.int .i64 (n : Int)) ∧ V.cell? ⟨w.heap.size, 0, none⟩ = some (.slice a n cap) ∧ V.rangeAt g13 0 (u8s (root xs)) := fun V h1 h2 => ⟨by rw [h1.ca.cell]; rfl, by rw [h1.cl.cell]; rfl, h2.range 0 _ (by rw [List.drop_zero, List.take_of_length_le (Nat.le_refl _)])⟩
    go_wp2_with fail
    refine wp_region_noPanic ?_
    have bd := (Below.refl V3.heap.size V3).drew
    have HT4 := hide (HT3.out.below bd)
    have HG4 := hide (HG13.out.below bd HG13.out.lt)
    have HKd4 := hide ((bd.block D (Array.getElem?_eq_some_iff.1 HKd3.out).1).trans HKd3.out)
    refine wp_region_held_drew (S := fun V : World => V.cell? ⟨ga, 0, none⟩ = some (.int .i64 (n : Int)) ∧ V.cell? ⟨w.heap.size, 0, none⟩ = some (.slice a n cap) ∧ V.rangeAt g13 0 (u8s (root xs))) (by kernel_rfl) (HS2 _ HT4.out HG4.out) (fun hHeld => ?_)
    refine takeH 0 99 (.int .i64 (n : Int)) hHeld rfl rfl (by kernel_rfl) (by kernel_rfl) (by kernel_rfl) (fun _ _ _ h => h) (Or.inl ⟨by rfl, fun w hw => by have hw' : w.cell? ⟨ga, 0, none⟩ = some (.int .i64 (n : Int)) := (fun h => h.1) hw; go_simp⟩) ?_
    simp only [Act.put, List.setIfInBounds_toArray, List.set_cons_zero, List.set_cons_succ]
    refine takeH 1 100 (.slice a n cap) hHeld rfl rfl (by kernel_rfl) (by kernel_rfl) (by kernel_rfl) (fun _ _ _ h => h) (Or.inl ⟨by rfl, fun V hV => by have hV' : V.cell? ⟨w.heap.size, 0, none⟩ = some (.slice a n cap) := hV.2.1; go_simp⟩) ?_
    simp only [Act.put, List.setIfInBounds_toArray, List.set_cons_zero, List.set_cons_succ]
    refine takeH 2 101 (.int .i64 (n : Int)) hHeld rfl rfl (by kernel_rfl) (by kernel_rfl) (by kernel_rfl) (fun _ _ _ h => h) (Or.inl ⟨by rfl, fun w _ => by go_simp⟩) ?_
    simp only [Act.put, List.setIfInBounds_toArray, List.set_cons_zero, List.set_cons_succ]
    refine takeH 3 102 (.bool true) hHeld rfl rfl (by kernel_rfl) (by kernel_rfl) (by kernel_rfl) (fun _ _ _ h => h) (Or.inl ⟨by rfl, fun w _ => by go_simp⟩) ?_
    simp only [Act.put, List.setIfInBounds_toArray, List.set_cons_zero, List.set_cons_succ]
    refine takeH 4 103 (.bool true) hHeld rfl rfl (by kernel_rfl) (by kernel_rfl) (by kernel_rfl) (fun _ _ _ h => h) (Or.inl ⟨by rfl, fun w _ => by go_simp⟩) ?_
    simp only [Act.put, List.setIfInBounds_toArray, List.set_cons_zero, List.set_cons_succ]
    refine takeH 5 104 (.int .i64 0) hHeld rfl rfl (by kernel_rfl) (by kernel_rfl) (by kernel_rfl) (fun _ _ _ h => h) (Or.inl ⟨by rfl, fun w _ => by go_simp⟩) ?_
    simp only [Act.put, List.setIfInBounds_toArray, List.set_cons_zero, List.set_cons_succ]
    refine takeH 6 105 (.bool true) hHeld rfl rfl (by kernel_rfl) (by kernel_rfl) (by kernel_rfl) (fun _ _ _ h => h) (Or.inl ⟨by rfl, fun w _ => by go_simp⟩) ?_
    simp only [Act.put, List.setIfInBounds_toArray, List.set_cons_zero, List.set_cons_succ]
    refine takeH 7 106 (.bool true) hHeld rfl rfl (by kernel_rfl) (by kernel_rfl) (by kernel_rfl) (fun _ _ _ h => h) (Or.inl ⟨by rfl, fun w _ => by go_simp⟩) ?_
    simp only [Act.put, List.setIfInBounds_toArray, List.set_cons_zero, List.set_cons_succ]
    refine takeH 8 107 (.bool true) hHeld rfl rfl (by kernel_rfl) (by kernel_rfl) (by kernel_rfl) (fun _ _ _ h => h) (Or.inl ⟨by rfl, fun w _ => by go_simp⟩) ?_
    simp only [Act.put, List.setIfInBounds_toArray, List.set_cons_zero, List.set_cons_succ]
    refine takeH 9 108 (.agg (u8s (root xs)).toArray) hHeld rfl rfl (by kernel_rfl) (by kernel_rfl) (by kernel_rfl) (fun _ _ _ h => h) (yieldsIf_load_mid (by rfl) _ _ rfl g13 0 rfl _ _ (fun w h => h.2.2) huD hdD (by rw [wD.size, HUL.out])) ?_
    simp only [Act.put, List.setIfInBounds_toArray, List.set_cons_zero, List.set_cons_succ]
    refine takeH 10 109 (.slice a n cap) hHeld rfl rfl (by kernel_rfl) (by kernel_rfl) (by kernel_rfl) (fun _ _ _ h => h) (Or.inl ⟨by rfl, fun V hV => by have hV' : V.cell? ⟨w.heap.size, 0, none⟩ = some (.slice a n cap) := hV.2.1; go_simp⟩) ?_
    simp only [Act.put, List.setIfInBounds_toArray, List.set_cons_zero, List.set_cons_succ]
    refine wpAnyH_ready (rs := [11]) (by kernel_rfl) (by simp) (AllReadyH.cons rfl (fun K hK => ?_) AllReadyH.nil)
    rw [if_pos (by rfl)]
    go_simp
    refine (root_any n a n cap xs _ (Nat.le_refl _) (HS.out.below HT4.out.bel) (HK.out.below HT4.out.bel HK.out.lt)).mono ?_
    rintro r V5 ⟨rfl, hv5⟩
    have HT5 := hide (HT4.out.below hv5)
    have HG5 := hide (HG4.out.below hv5 HG4.out.lt)
    have HKd5 := hide ((hv5.block D (Array.getElem?_eq_some_iff.1 HKd4.out).1).trans HKd4.out)
    refine hK.out _ _ ((HS2 _ HT5.out HG5.out)) (fun hHeld => ?_)
    clear hK K
    refine takeH 12 111 (.bool true) hHeld rfl rfl (by kernel_rfl) (by kernel_rfl) (by kernel_rfl) (fun _ _ _ h => h) (Or.inl ⟨by rfl, fun v _ => run_eqT aD _ rfl rfl HRL.out⟩) ?_
    simp only [Act.put, List.setIfInBounds_toArray, List.set_cons_zero, List.set_cons_succ]
    refine takeH 13 112 (.bool true) hHeld rfl rfl (by kernel_rfl) (by kernel_rfl) (by kernel_rfl) (fun _ _ _ h => h) (Or.inl ⟨by rfl, fun w _ => by go_simp⟩) ?_
    simp only [Act.put, List.setIfInBounds_toArray, List.set_cons_zero, List.set_cons_succ]
    have cb5 : V5.cell? ⟨w.heap.size + 1, 0, none⟩ = some (.bool false) := by rw [HT5.out.cb.cell]; rfl
    have fb5 : V5.frozen? ⟨w.heap.size + 1, 0, none⟩ = false := HT5.out.cb.free 0
    refine wpAnyH_ready (rs := [14]) (by kernel_rfl) (by simp) (AllReadyH.cons rfl (fun K hK => ?_) AllReadyH.nil)
    rw [if_pos (by rfl)]
    go_simp
    have hbutR := But.setCell V5 (w.heap.size + 1) 0 (.bool true)
    have CA6 := HT5.out.ca.but hbutR (HT5.out.ca.apart HT5.out.cb (by decide))
    have CL6 := HT5.out.cl.but hbutR (HT5.out.cl.apart HT5.out.cb (by decide))
    have CG6 := HG5.out.but hbutR (HG5.out.apart HT5.out.cb (by decide))
    refine hK.out _ _ ⟨by rw [CA6.cell]; rfl, by rw [CL6.cell]; rfl, CG6.range 0 _ (by rw [List.drop_zero, List.take_of_length_le (Nat.le_refl _)])⟩ (fun hHeld => ?_)
    clear hK K
    refine wpAnyH_done (by kernel_rfl) ?_ _
    refine NoPanic.normal ?_
    clear hHeld CA6 CL6 CG6
    have k1 := (KeepsOthers.setCell V5 ⟨w.heap.size + 1, 0, none⟩ (.bool true)).same D _ HKd5.out rfl
    have CB6 := HT5.out.cb.set 0 (.bool true)
    have CB7 := CB6.kept (grownBy_putObj' _ D (.deferred none)) (fun r e => by cases e; exact ⟨_, k1, rfl⟩)
    have BA := (HT5.out.bel.trans (hbutR.below (by omega))).trans (belowK_b (w := w) (Nat.le_refl _) _ D _ (.deferred none) (by omega) k1 rfl rfl)
    have hcC : ((V5.setCell ⟨w.heap.size + 1, 0, none⟩ (.bool true)).putObj D (.deferred none)).cell? ⟨w.heap.size + 1, 0, none⟩ = some (.bool true) := by rw [CB7.cell]; rfl
    clear cb5 fb5 hbutR CB6 CB7
    go_wp2
    refine ⟨by simp, .inl ⟨_, _, rfl, run_takeDeferred k1, ?_⟩⟩
    refine ⟨.bool true, ?_, rfl, BA⟩
    simp [results, Tryd.f6, go_sem, hcC]

end Go.Proofs.YthgfbcndoedacaaDoor
