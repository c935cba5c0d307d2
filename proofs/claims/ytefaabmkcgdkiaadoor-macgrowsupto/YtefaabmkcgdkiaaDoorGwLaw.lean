/-
  The walk of MacGrows.
-/
import Derived.Test.YtefaabmkcgdkiaaDoorGw
namespace Go.Proofs.YtefaabmkcgdkiaaDoor
open Go.RowKit
set_option linter.unusedVariables false

set_option maxRecDepth 100000 in
set_option maxHeartbeats 3000000 in
theorem grows_walk (a : Option Addr) (len cap : Nat) (xs : List Int) (a1 : Option Addr) (len1 cap1 : Nat) (ps : List (List Int)) (w : World) (hs : Sl w a len cap xs) (hc : cap ≤ 1048576) (hp : Sls w a1 len1 cap1 ps) (hk : KT w) :
    Calls Tryd.prog 6 #[.slice a len cap, .slice a1 len1 cap1] w fun e w' => e = .returned (.bool true) ∧ Below w.heap.size w w' := by
  have HS := hide hs
  have HP := hide hp
  have HK := hide hk
  have hcap := hs.hcap
  have HX := hide hs.hlen
  have HXB := hide hs.hbyte
  have HPL := hide hp.hlen
  have HPS := hide hp.hsum
  have hpm := hp.hmax
  clear hs hp hk
  go_enter Tryd.func6, Tryd.ntmps6
  have ho0 : Own (w.alloc (.cells #[] 5)) w.heap.size (.slice (some ⟨w.heap.size, 0, none⟩) 0 0) [] := Own.of_blk (xs := []) (Blk.made w 5 []) (Nat.le_refl _) (by simp)
  have hb0 : Below w.heap.size w (w.alloc (.cells #[] 5)) := (Below.refl _ _).alloc (Nat.le_refl _) _
  go_wp2_with (refine step_append rfl rfl rfl ho0 (HS.out.below hb0) (by simp; omega) (by simp) ?_)
  intro v1 w1 ho1 hg1 hn1
  rw [List.nil_append] at ho1
  have B1 := hide (hb0.trans (Below.of_grown hg1 hb0.size ho0.lt))
  have hv1 : v1 ≠ .slice none 0 0 := fun e => by have e2 := (hn1 e).1; cases e2
  have O1 := hide ho1
  obtain ⟨gi, ci, ei, hli, hsi⟩ := ho1.sl HXB.out (by rw [HX.out]; omega) hv1
  subst ei
  rw [HX.out] at hsi O1 ⊢
  have SI := hide hsi
  clear ho0 hb0 ho1 hg1 hn1 hv1 hsi
  go_wp2_with fail
  refine (macNew_any _ _ _ xs _ SI.out (HK.out.below B1.out HK.out.lt)).mono ?_
  rintro e w2 ⟨k, g, rfl, hlk, hlg, hkd, hb2⟩
  have HB2 := hide (B1.out.trans (hb2.mono B1.out.size))
  have KD2 := hide hkd
  have OI2 := hide (O1.out.below hb2)
  have hil : gi < w1.heap.size := (World.ownsRow.lt O1.out gi rfl).2
  have hki : k ≠ gi := by omega
  have hgi : g ≠ gi := by omega
  have hwk : w.heap.size ≤ k := Nat.le_trans B1.out.size hlk
  have hwg : w.heap.size ≤ g := Nat.le_trans B1.out.size hlg
  have hg0 : g ≠ 0 := by have := HK.out.lt; omega
  clear hkd hb2 O1 SI hlk hlg
  go_wp2_with fail
  refine (spoil3_own gi len ci xs _ _ OI2.out HX.out (by omega)).mono ?_
  rintro e w3 ⟨rfl, hbut3⟩
  have KD3 := hide (KD2.out.but hbut3 hki hgi)
  have HB3 := hide (HB2.out.trans (hbut3.below hli))
  clear hbut3 OI2 KD2 HB2
  go_wp2
  go_loopw [7, 8] (fun al i wr => ∃ j : Nat, j ≤ len1 + 1 ∧ i = .int .i64 j ∧ Own wr w.heap.size al (ps.take j).flatten ∧ Kd wr k g xs (ps.take j).flatten ∧ Below w.heap.size w wr) (fun _ i _ => len1 + 1 - (intOf i).toNat)
  case atStart => exact ⟨0, by omega, rfl, Own.nil _ _, KD3.out, HB3.out⟩
  case round =>
    obtain ⟨j, hj, rfl, ho, hkd, hb⟩ := hrel
    have B := hide hb
    have KD := hide hkd
    have HFL := hide (Nat.le_trans (flat_le ps j) HPS.out)
    have HFB : Hid (isB (ps.take j).flatten) := hide (by
      intro y hy
      obtain ⟨l, hl, hy⟩ := List.mem_flatten.1 hy
      obtain ⟨i, hi, rfl⟩ := List.getElem_of_mem (List.mem_of_mem_take hl)
      obtain ⟨_, _, _, _, _, _, _, hsl, _⟩ := HP.out.hcell i (by rw [← HPL.out]; exact hi)
      have : ps.getD i [] = ps[i] := by simp [List.getD, hi]
      rw [this] at hsl
      exact hsl.hbyte y hy)
    have HFS0 : ∀ h : j < ps.length, Hid ((ps.take j).flatten ++ ps.getD j [] = (ps.take (j + 1)).flatten) := fun h => hide (flat_succ ps j h)
    have EF0 : Hid (ps.length ≤ j → (ps.take (j + 1)).flatten = (ps.take j).flatten) := hide (fun h => by
      rw [List.take_of_length_le (by omega), List.take_of_length_le h])
    revert ho KD HFL HFB HFS0 EF0
    clear hkd
    generalize (ps.take j).flatten = F
    intro ho KD HFL HFB HFS0 EF0
    obtain ⟨aal, cal, rfl, hsal⟩ := ho.sl' HFB.out (by have := HFL.out; omega)
    obtain ⟨LF, hLF⟩ : ∃ LF, LF = F.length := ⟨_, rfl⟩
    have QF := hide hLF
    rw [← hLF] at ho hsal HFL ⊢
    clear hLF
    have O := hide ho
    have SAL := hide hsal
    have SR := hide (HS.out.below hb)
    have PR := hide (HP.out.below hb)
    have KR := hide (HK.out.below hb HK.out.lt)
    have hfl := HFL.out
    clear ho hb hsal KD3 HB3
    by_cases hle : j ≤ len1
    · have hle' : (j : Int) ≤ (len1 : Int) := by omega
      have ML := hide (mc_length xs F)
      go_wp2_with fail
      refine (kdSum_any k g xs F _ KD.out HXB.out HFB.out KR.out (by rw [← QF.out]; omega)).mono ?_
      rintro e wa ⟨rfl, hba⟩
      have Ba := hide (B.out.trans (hba.mono B.out.size))
      have Sa := hide (SR.out.below hba)
      have Aa := hide (SAL.out.below hba)
      have Oa := hide (O.out.below hba)
      have KDa := hide (KD.out.below hba)
      clear hba SR SAL O KD B KR PR
      go_wp2_with fail
      refine (macR_any _ _ _ xs _ _ _ F _ Sa.out (by omega) Aa.out (by omega)).mono ?_
      rintro e wb1 ⟨rfl, hbb⟩
      have Bb := hide (Ba.out.trans (hbb.mono Ba.out.size))
      have Sb := hide (Sa.out.below hbb)
      have Ab := hide (Aa.out.below hbb)
      have Ob := hide (Oa.out.below hbb)
      have KDb := hide (KDa.out.below hbb)
      have KTb := hide (HK.out.below Bb.out HK.out.lt)
      clear hbb Sa Aa Oa KDa Ba
      go_wp2_with (refine step_neA aD rfl rfl rfl ML.out ML.out ?_)
      refine (kdSum_any k g xs F _ KDb.out HXB.out HFB.out KTb.out (by rw [← QF.out]; omega)).mono ?_
      rintro e wc ⟨rfl, hbc⟩
      have Bc := hide (Bb.out.trans (hbc.mono Bb.out.size))
      have Sc := hide (Sb.out.below hbc)
      have Ac := hide (Ab.out.below hbc)
      have Oc := hide (Ob.out.below hbc)
      have KDc := hide (KDb.out.below hbc)
      clear hbc Sb Ab Ob KDb Bb KTb
      go_wp2_with fail
      refine (macR_any _ _ _ xs _ _ _ F _ Sc.out (by omega) Ac.out (by omega)).mono ?_
      rintro e wd ⟨rfl, hbd⟩
      have Bd := hide (Bc.out.trans (hbd.mono Bc.out.size))
      have Od := hide (Oc.out.below hbd)
      have KDd := hide (KDc.out.below hbd)
      have Pd := hide (HP.out.below Bd.out)
      have KTd := hide (HK.out.below Bd.out HK.out.lt)
      clear hbd Sc Ac Oc KDc Bc
      by_cases hlt : j < len1
      · have hlt' : (j : Int) < (len1 : Int) := by omega
        obtain ⟨b, off, ap, lp, cp, ea, hcp, hsp, hlp⟩ := Pd.out.hcell j hlt
        cases ea
        have SP := hide hsp
        have HPJ := hide hsp.hlen
        have HPB := hide hsp.hbyte
        have HFS := HFS0 (by rw [HPL.out]; exact hlt)
        clear hsp
        have ho0 : Own (wd.alloc (.cells #[] 5)) wd.heap.size (.slice (some ⟨wd.heap.size, 0, none⟩) 0 0) [] := Own.of_blk (xs := []) (Blk.made wd 5 []) (Nat.le_refl _) (by simp)
        have hb0 : Below wd.heap.size wd (wd.alloc (.cells #[] 5)) := (Below.refl _ _).alloc (Nat.le_refl _) _
        have hcp0 : (wd.alloc (.cells #[] 5)).cell? ⟨b, off + j, none⟩ = some (.slice ap lp cp) := by rw [hb0.cell (World.block_lt_of_cell? wd _ hcp)]; exact hcp
        go_wp2_with (first | (refine step_neA aD rfl rfl rfl ML.out ML.out ?_) | (refine step_append rfl rfl rfl ho0 (SP.out.below hb0) (by simp; omega) (by simp) ?_))
        intro vp we hoe hge hne
        rw [List.nil_append] at hoe
        have Be := hide (hb0.trans (Below.of_grown hge hb0.size ho0.lt))
        have hvp : vp ≠ .slice none 0 0 := fun e => by have e2 := (hne e).1; cases e2
        have OP := hide hoe
        obtain ⟨gp, cq, eq, hlgp, hsq⟩ := hoe.sl HPB.out (by rw [HPJ.out]; omega) hvp
        subst eq
        rw [HPJ.out] at hsq OP ⊢
        have SQ := hide hsq
        have KDe := hide (KDd.out.below Be.out)
        have Oe := hide (Od.out.below Be.out)
        have HBe := hide (Bd.out.trans (Be.out.mono Bd.out.size))
        have KTe := hide (HK.out.below HBe.out HK.out.lt)
        have hgpg : gp ≠ g := by have := KDd.out.st.lt; omega
        have hgpk : gp ≠ k := by have := KDd.out.obj.lt; omega
        have hOl : ∀ q, Value.ownBlock (.slice aal LF cal) = some q → q ≠ gp := fun q hq => by have := (World.ownsRow.lt Od.out q hq).2; omega
        have AP : Hid (0 < lp → Apart g (some ⟨gp, 0, none⟩)) := hide (fun _ x hx => by cases hx; exact hgpg)
        have ht65 : (65 : TypeId) ≠ 5 := by decide
        have hwd : w.heap.size ≤ wd.heap.size := Bd.out.size
        clear ho0 hb0 hoe hge hne hvp hsq hcp hcp0 Bd KDd Od KTd Be
        go_wp2_with fail
        refine (kdWrite_any k g xs F _ _ _ (ps.getD j []) _ KDe.out HXB.out HFB.out SQ.out AP.out KTe.out hg0 (by rw [← QF.out]; omega)).mono ?_
        rintro e wf ⟨rfl, hkdf, hcf⟩
        have OPf := hide (OP.out.chg KDe.out.st ht65 hcf)
        have Of := hide (Oe.out.chg KDe.out.st ht65 hcf)
        have KDf := hide hkdf
        have HBf := hide (HBe.out.trans (hcf.below hwg HBe.out.size))
        clear hkdf hcf OP Oe KDe HBe KTe SQ AP
        go_wp2_with fail
        refine (spoil3_own gp lp cq _ _ _ OPf.out HPJ.out (by omega)).mono ?_
        rintro e wg ⟨rfl, hbutg⟩
        have Og := hide (Of.out.but hbutg hOl)
        have KDg := hide (KDf.out.but hbutg (fun h => hgpk h.symm) (fun h => hgpg h.symm))
        have hwgp : w.heap.size ≤ gp := Nat.le_trans hwd hlgp
        have HBg := hide (HBf.out.trans (hbutg.below hwgp))
        have Pg := hide (HP.out.below HBg.out)
        obtain ⟨b2, off2, ap2, lp2, cp2, ea2, hcp2, hsp2, hlp2⟩ := Pg.out.hcell j hlt
        cases ea2
        have SP2 := hide hsp2
        have HPJ2 := hide hsp2.hlen
        clear hbutg OPf Of KDf HBf Pd hsp2
        go_wp2_with (refine step_append rfl rfl rfl Og.out SP2.out (by rw [← QF.out]; omega) HBg.out.size ?_)
        intro val wh hoh hgh hnh
        have KDh := hide (KDg.out.grown Og.out hgh)
        have HBh := hide (HBg.out.trans (Below.of_grown hgh HBg.out.size Og.out.lt))
        rw [HFS.out] at hoh KDh
        have OH := hide hoh
        clear hoh hgh hnh
        go_wp2
        go_roundw
        case rel => exact ⟨j + 1, by omega, by go_num, OH.out, KDh.out, HBh.out⟩
        case measure => simp [intOf]; omega
      · have hlt' : ¬ ((j : Int) < (len1 : Int)) := by omega
        obtain rfl : j = len1 := by omega
        have EF := hide (EF0.out (by rw [HPL.out]; exact Nat.le_refl _))
        go_wp2_with (refine step_neA aD rfl rfl rfl ML.out ML.out ?_)
        go_roundw
        case rel => exact ⟨j + 1, by omega, by go_num, by rw [EF.out]; exact Od.out, by rw [EF.out]; exact KDd.out, Bd.out⟩
        case measure => simp [intOf]
    · have hle' : ¬ ((j : Int) ≤ (len1 : Int)) := by omega
      go_wp2
      go_ret
      exact ⟨rfl, B.out⟩

end Go.Proofs.YtefaabmkcgdkiaaDoor
