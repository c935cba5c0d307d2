/-
  The document's Mac.
-/
import Derived.Test.YtefaabmkcgdkiaaDoorMk
import Derived.Test.YtefaabmkcgdkiaaDoorSu
import Derived.Test.YtefaabmkcgdkiaaDoorAp
import Derived.Test.YtefaabmkcgdkiaaDoorKd
namespace Go.Proofs.YtefaabmkcgdkiaaDoor
open Go.RowKit
set_option linter.unusedVariables false

theorem slice_D0 (g : Nat) (v : World) : (Instr.sliceAt 45 (.pointer (some ⟨g, 0, none⟩)) none none none).run Tryd.prog v = .ok (.slice (some ⟨g, 0, none⟩) 32 32) v := by kernel_rfl
theorem mk_take_succ (m : Int) (b : List Int) (k : Nat) (h : k < b.length) : mk m (b.take k) ++ [xb m (b.getD k 0)] = mk m (b.take (k + 1)) := by
  rw [List.take_succ_eq_append_getElem h]
  unfold mk
  rw [List.map_append]
  simp only [List.map_cons, List.map_nil, List.getD, List.getElem?_eq_getElem h, Option.getD_some]
theorem kb_get_lo {xs zs : List Int} {n : Nat} (e : kb xs = zs ++ zer n) (i : Nat) (h : i < zs.length) : (kb xs).getD i 0 = zs.getD i 0 := by
  rw [e]; simp [List.getD, List.getElem?_append, h]
theorem kb_get_hi {xs zs : List Int} {n : Nat} (e : kb xs = zs ++ zer n) (i : Nat) (h : zs.length ≤ i) : (kb xs).getD i 0 = 0 := by
  rw [e]
  simp only [List.getD, List.getElem?_append_right h, zer, List.getElem?_replicate]
  split <;> rfl
theorem own_cast' {w : World} {B : Nat} {v : Value} {l l' : List Int} (h : Own w B v l) (e : l = l') : Own w B v l' := e ▸ h

set_option maxRecDepth 100000 in
set_option maxHeartbeats 4000000 in
theorem macR_any (a : Option Addr) (len cap : Nat) (xs : List Int) (a1 : Option Addr) (len1 cap1 : Nat) (ys : List Int) (w : World) (hs : Sl w a len cap xs) (hl : len ≤ 140737488355200) (hs1 : Sl w a1 len1 cap1 ys) (hl1 : len1 ≤ 140737488354304) :
    Calls Tryd.prog 20 #[.slice a len cap, .slice a1 len1 cap1] w fun e w' => e = .returned (.agg (u8s (mc xs ys)).toArray) ∧ Below w.heap.size w w' := by
  have HS := hide hs
  have HS1 := hide hs1
  have HX := hide hs.hlen
  have HXB := hide hs.hbyte
  have HYB := hide hs1.hbyte
  have HY := hide hs1.hlen
  have HKN := hide (kb_length xs)
  have HKB := hide (kb_isB xs hs.hbyte)
  have HML := hide (show (u8s (mc xs ys)).length = 32 by rw [u8s_length, mc_length])
  clear hs hs1
  go_enter Tryd.func20, Tryd.ntmps20
  go_wp2_with (refine step_alloc zD rfl ?_)
  intro w1 g4 hg1 hle1 hb1
  have S1 := hide (HS.out.below hb1)
  have Y1 := hide (HS1.out.below hb1)
  have G1 := hide hg1
  have HB1 := hide hb1
  clear hg1 hb1
  by_cases hln : 64 < len
  · have hln' : (64 : Int) < (len : Int) := by omega
    have HD := hide (dg_length bL 0 xs rfl)
    have EK : Hid (kb xs = dg bL 0 xs ++ zer 32) := hide (by rw [kb, if_pos (by rw [HX.out]; exact hln)])
    go_wp2_with fail
    refine (sumR_any _ _ _ xs _ S1.out hl).mono ?_
    rintro e w2 ⟨rfl, hb2⟩
    go_wp2_with (refine step_alloc zD0 rfl ?_)
    intro w3 g5 hg3 hle3 hb3
    have G3 := hide hg3
    clear hg3
    go_wp2_with (refine step_storeA wD0 rfl rfl rfl G3.out (by rw [u8s_length]; exact HD.out) (One.u8 _) rfl ?_)
    intro w4 hg4 hbut4
    have hb14 := hb2.trans ((hb3.trans (hbut4.below hle3)).mono hb2.size)
    have HBS := hide (HB1.out.trans (hb14.mono HB1.out.size))
    have G4S := hide (G1.out.below hb14 G1.out.lt)
    have YS := hide (Y1.out.below hb14)
    have SK := hide (hg4.sl0 (dg_isB _ _ _) (by rw [HD.out]; omega))
    rw [HD.out] at SK
    have HZ := HD
    have hsl0 := slice_D0 g5
    clear hb2 hb3 hbut4 hg4 hb14 G3 G1 Y1 S1 HB1 hle3
    go_wp2
    go_loopw [6, 7, 8] (fun u v i wr => ∃ k : Nat, k ≤ 64 ∧ i = .int .i64 k ∧ Own2 wr w4.heap.size u v (mk 54 ((kb xs).take k)) (mk 92 ((kb xs).take k)) ∧ Below w4.heap.size w4 wr) (fun _ _ i _ => 64 - (intOf i).toNat)
    case atStart => exact ⟨0, by omega, rfl, ⟨Own.nil _ _, Own.nil _ _, .inl rfl⟩, Below.refl _ _⟩
    case round =>
      obtain ⟨k, hk, rfl, ho, hb⟩ := hrel
      have O := hide ho
      have B := hide hb
      clear ho hb
      have L1 := hide (show (mk 54 ((kb xs).take k)).length = k by rw [mk_length, List.length_take, HKN.out]; omega)
      have L2 := hide (show (mk 92 ((kb xs).take k)).length = k by rw [mk_length, List.length_take, HKN.out]; omega)
      by_cases hlt : k < 64
      · have hlt' : (k : Int) < 64 := by omega
        have T1 := hide (mk_take_succ 54 (kb xs) k (by rw [HKN.out]; exact hlt))
        have T2 := hide (mk_take_succ 92 (kb xs) k (by rw [HKN.out]; exact hlt))
        have HX0 := hide (HKB.out.get k)
        by_cases hki : k < 32
        · have hki' : (k : Int) < ((32 : Nat) : Int) := by omega
          obtain ⟨b, off, ea, hc⟩ := SK.out.hcell (by omega)
          cases ea
          have hcell := (B.out.cell (World.block_lt_of_cell? _ _ (hc k hki))).trans (hc k hki)
          rw [← kb_get_lo EK.out k (by rw [HZ.out]; exact hki)] at hcell
          clear hc
          first | rw [Nat.zero_add] at hcell | skip
          revert T1 T2 HX0 hcell
          generalize (kb xs).getD k 0 = x
          intro T1 T2 HX0 hcell
          have X1 := hide (xb_bd 54 x (by omega) HX0.out)
          have X2 := hide (xb_bd 92 x (by omega) HX0.out)
          go_wp2_with (refine step_appendL rfl rfl rfl (O.out.a.alloc _) (one_slB _ _ (by first | exact X1.out | decide)) (by omega) (by rw [L1.out]; omega) (by have := B.out.size; simp; omega) ?_)
          intro g6 c6 wa hoa hga hla
          have O1 := hide ((O.out.alloc _).grow hoa hga (hla.imp id fun e => by first | omega | (simp; omega)))
          have B1 := hide ((B.out.alloc B.out.size _).trans (Below.of_grown hga (by have := B.out.size; simp; omega) O.out.a.lt))
          clear hoa hga hla
          go_wp2_with (refine step_appendL rfl rfl rfl (O1.out.b.alloc _) (one_slB _ _ (by first | exact X2.out | decide)) (by omega) (by rw [L2.out]; omega) (by have := B1.out.size; simp; omega) ?_)
          intro g7 c7 wb1 hob hgb hlb
          have O2 := hide ((O1.out.swap.alloc _).grow hob hgb (hlb.imp id fun e => by first | omega | (simp; omega))).swap
          have B2 := hide ((B1.out.alloc B1.out.size _).trans (Below.of_grown hgb (by have := B1.out.size; simp; omega) O1.out.b.lt))
          clear hob hgb hlb O1 B1 O B
          go_wp2
          go_roundw
          case rel => exact ⟨k + 1, by omega, by go_num, by rw [← T1.out, ← T2.out]; exact O2.out, B2.out⟩
          case measure => simp [intOf]; omega
        · have hki' : ¬ ((k : Int) < ((32 : Nat) : Int)) := by omega
          have EZ := hide (kb_get_hi EK.out k (by rw [HZ.out]; omega))
          rw [EZ.out] at T1 T2
          have X1 := hide (show 0 ≤ (54 : Int) ∧ (54 : Int) ≤ 255 by omega)
          have X2 := hide (show 0 ≤ (92 : Int) ∧ (92 : Int) ≤ 255 by omega)
          clear HX0
          go_wp2_with (refine step_appendL rfl rfl rfl (O.out.a.alloc _) (one_slB _ _ (by first | exact X1.out | decide)) (by omega) (by rw [L1.out]; omega) (by have := B.out.size; simp; omega) ?_)
          intro g6 c6 wa hoa hga hla
          have O1 := hide ((O.out.alloc _).grow hoa hga (hla.imp id fun e => by first | omega | (simp; omega)))
          have B1 := hide ((B.out.alloc B.out.size _).trans (Below.of_grown hga (by have := B.out.size; simp; omega) O.out.a.lt))
          clear hoa hga hla
          go_wp2_with (refine step_appendL rfl rfl rfl (O1.out.b.alloc _) (one_slB _ _ (by first | exact X2.out | decide)) (by omega) (by rw [L2.out]; omega) (by have := B1.out.size; simp; omega) ?_)
          intro g7 c7 wb1 hob hgb hlb
          have O2 := hide ((O1.out.swap.alloc _).grow hob hgb (hlb.imp id fun e => by first | omega | (simp; omega))).swap
          have B2 := hide ((B1.out.alloc B1.out.size _).trans (Below.of_grown hgb (by have := B1.out.size; simp; omega) O1.out.b.lt))
          clear hob hgb hlb O1 B1 O B
          go_wp2
          go_roundw
          case rel => exact ⟨k + 1, by omega, by go_num, by rw [← T1.out, ← T2.out]; exact O2.out, B2.out⟩
          case measure => simp [intOf]; omega
      · obtain rfl : k = 64 := by omega
        have OO := hide O.out
        rw [List.take_of_length_le (by rw [HKN.out]; exact Nat.le_refl _)] at OO
        have YR := hide (YS.out.below B.out)
        have LI := hide (show (mk 54 (kb xs)).length = 64 by rw [mk_length, HKN.out])
        have LO := hide (show (mk 92 (kb xs)).length = 64 by rw [mk_length, HKN.out])
        have EI : Hid (dg bL 0 (mk 54 (kb xs) ++ ys) = dg bL 0 (inn xs ++ ys)) := hide rfl
        have EO : Hid (dg bL 0 (mk 92 (kb xs) ++ dg bL 0 (inn xs ++ ys)) = mc xs ys) := hide rfl
        clear O L1 L2 SK
        go_wp2_with (refine step_append rfl rfl rfl OO.out.a YR.out (by rw [LI.out]; omega) B.out.size ?_)
        intro v6 wa hoa hga hna
        have Ba := hide (B.out.trans (Below.of_grown hga B.out.size OO.out.a.lt))
        have OB := hide (OO.out.other hga)
        have LIY := hide (show (mk 54 (kb xs) ++ ys).length = 64 + len1 by rw [List.length_append, LI.out, HY.out])
        have hna' : v6 ≠ .slice none 0 0 := fun e => by
          rcases hoa.2 with ⟨_, e2⟩ | ⟨_, _, _, e2, _⟩
          · rw [LIY.out] at e2; omega
          · rw [e] at e2; cases e2
        obtain ⟨gi, ci, ei, _, hsi⟩ := hoa.sl ((mk_isB 54 _ (by omega) HKB.out).append HYB.out) (by rw [LIY.out]; omega) hna'
        subst ei
        rw [LIY.out] at hsi ⊢
        have SI := hide hsi
        clear hoa hga hna hna' hsi OO B YR
        go_wp2_with fail
        refine (sumR_any _ _ _ (mk 54 (kb xs) ++ ys) _ SI.out (by omega)).mono ?_
        rintro e wb1 ⟨rfl, hbb⟩
        rw [EI.out]
        have OB2 := hide (OB.out.below hbb)
        have Bb := hide (Ba.out.trans (hbb.mono Ba.out.size))
        have HDI := hide (dg_length bL 0 (inn xs ++ ys) rfl)
        clear hbb OB Ba SI
        go_wp2_with (refine step_alloc zD0 rfl ?_)
        intro wc g10 hg10 hle10 hb10
        have G10 := hide hg10
        clear hg10
        go_wp2_with (refine step_storeA wD0 rfl rfl rfl G10.out (by rw [u8s_length]; exact HDI.out) (One.u8 _) rfl ?_)
        intro wd hgd hbutd
        have hbd := hb10.trans (hbutd.below hle10)
        have OB3 := hide (OB2.out.below hbd)
        have Bd := hide (Bb.out.trans (hbd.mono Bb.out.size))
        have SD := hide (hgd.sl0 (dg_isB _ _ _) (by rw [HDI.out]; omega))
        rw [HDI.out] at SD
        have hsl := slice_D0 g10
        clear hb10 hbutd hgd hbd OB2 Bb G10
        go_wp2_with (refine step_append rfl rfl rfl OB3.out SD.out (by rw [LO.out]; omega) Bd.out.size ?_)
        intro v7 we hoe hge hne
        have Be := hide (Bd.out.trans (Below.of_grown hge Bd.out.size OB3.out.lt))
        have LOD := hide (show (mk 92 (kb xs) ++ dg bL 0 (inn xs ++ ys)).length = 96 by rw [List.length_append, LO.out, HDI.out])
        have hne' : v7 ≠ .slice none 0 0 := fun e => by
          rcases hoe.2 with ⟨_, e2⟩ | ⟨_, _, _, e2, _⟩
          · rw [LOD.out] at e2; omega
          · rw [e] at e2; cases e2
        obtain ⟨go1, co, eo, _, hso⟩ := hoe.sl ((mk_isB 92 _ (by omega) HKB.out).append (dg_isB _ _ _)) (by rw [LOD.out]; omega) hne'
        subst eo
        rw [LOD.out] at hso ⊢
        have SO := hide hso
        clear hoe hge hne hne' hso OB3 SD Bd
        go_wp2_with fail
        refine (sumR_any _ _ _ (mk 92 (kb xs) ++ dg bL 0 (inn xs ++ ys)) _ SO.out (by omega)).mono ?_
        rintro e wf ⟨rfl, hbf⟩
        rw [EO.out]
        have Bf := hide (Be.out.trans (hbf.mono Be.out.size))
        have Gf := hide (G4S.out.below Bf.out G4S.out.lt)
        go_wp2_with (refine step_storeA wD rfl rfl rfl Gf.out HML.out (One.u8 _) rfl ?_; intro wg hgg hbutg)
        refine bodyPost_ret (results_wide rfl wD _ _ rfl hgg HML.out) rfl ⟨rfl, ?_⟩
        exact (HBS.out.trans (Bf.out.mono HBS.out.size)).trans (hbutg.below hle1)
  · have hln' : ¬ ((64 : Int) < (len : Int)) := by omega
    have EK : Hid (kb xs = xs ++ zer (64 - len)) := hide (by rw [kb, if_neg (by rw [HX.out]; exact hln), HX.out])
    have HBS := HB1
    have G4S := G1
    have YS := Y1
    have SK := S1
    have HZ := HX
    clear HB1 G1 Y1 S1
    go_wp2
    go_loopw [6, 7, 8] (fun u v i wr => ∃ k : Nat, k ≤ 64 ∧ i = .int .i64 k ∧ Own2 wr w1.heap.size u v (mk 54 ((kb xs).take k)) (mk 92 ((kb xs).take k)) ∧ Below w1.heap.size w1 wr) (fun _ _ i _ => 64 - (intOf i).toNat)
    case atStart => exact ⟨0, by omega, rfl, ⟨Own.nil _ _, Own.nil _ _, .inl rfl⟩, Below.refl _ _⟩
    case round =>
      obtain ⟨k, hk, rfl, ho, hb⟩ := hrel
      have O := hide ho
      have B := hide hb
      clear ho hb
      have L1 := hide (show (mk 54 ((kb xs).take k)).length = k by rw [mk_length, List.length_take, HKN.out]; omega)
      have L2 := hide (show (mk 92 ((kb xs).take k)).length = k by rw [mk_length, List.length_take, HKN.out]; omega)
      by_cases hlt : k < 64
      · have hlt' : (k : Int) < 64 := by omega
        have T1 := hide (mk_take_succ 54 (kb xs) k (by rw [HKN.out]; exact hlt))
        have T2 := hide (mk_take_succ 92 (kb xs) k (by rw [HKN.out]; exact hlt))
        have HX0 := hide (HKB.out.get k)
        by_cases hki : k < len
        · have hki' : (k : Int) < ((len : Nat) : Int) := by omega
          obtain ⟨b, off, ea, hc⟩ := SK.out.hcell (by omega)
          cases ea
          have hcell := (B.out.cell (World.block_lt_of_cell? _ _ (hc k hki))).trans (hc k hki)
          rw [← kb_get_lo EK.out k (by rw [HZ.out]; exact hki)] at hcell
          clear hc
          first | rw [Nat.zero_add] at hcell | skip
          revert T1 T2 HX0 hcell
          generalize (kb xs).getD k 0 = x
          intro T1 T2 HX0 hcell
          have X1 := hide (xb_bd 54 x (by omega) HX0.out)
          have X2 := hide (xb_bd 92 x (by omega) HX0.out)
          go_wp2_with (refine step_appendL rfl rfl rfl (O.out.a.alloc _) (one_slB _ _ (by first | exact X1.out | decide)) (by omega) (by rw [L1.out]; omega) (by have := B.out.size; simp; omega) ?_)
          intro g6 c6 wa hoa hga hla
          have O1 := hide ((O.out.alloc _).grow hoa hga (hla.imp id fun e => by first | omega | (simp; omega)))
          have B1 := hide ((B.out.alloc B.out.size _).trans (Below.of_grown hga (by have := B.out.size; simp; omega) O.out.a.lt))
          clear hoa hga hla
          go_wp2_with (refine step_appendL rfl rfl rfl (O1.out.b.alloc _) (one_slB _ _ (by first | exact X2.out | decide)) (by omega) (by rw [L2.out]; omega) (by have := B1.out.size; simp; omega) ?_)
          intro g7 c7 wb1 hob hgb hlb
          have O2 := hide ((O1.out.swap.alloc _).grow hob hgb (hlb.imp id fun e => by first | omega | (simp; omega))).swap
          have B2 := hide ((B1.out.alloc B1.out.size _).trans (Below.of_grown hgb (by have := B1.out.size; simp; omega) O1.out.b.lt))
          clear hob hgb hlb O1 B1 O B
          go_wp2
          go_roundw
          case rel => exact ⟨k + 1, by omega, by go_num, by rw [← T1.out, ← T2.out]; exact O2.out, B2.out⟩
          case measure => simp [intOf]; omega
        · have hki' : ¬ ((k : Int) < ((len : Nat) : Int)) := by omega
          have EZ := hide (kb_get_hi EK.out k (by rw [HZ.out]; omega))
          rw [EZ.out] at T1 T2
          have X1 := hide (show 0 ≤ (54 : Int) ∧ (54 : Int) ≤ 255 by omega)
          have X2 := hide (show 0 ≤ (92 : Int) ∧ (92 : Int) ≤ 255 by omega)
          clear HX0
          go_wp2_with (refine step_appendL rfl rfl rfl (O.out.a.alloc _) (one_slB _ _ (by first | exact X1.out | decide)) (by omega) (by rw [L1.out]; omega) (by have := B.out.size; simp; omega) ?_)
          intro g6 c6 wa hoa hga hla
          have O1 := hide ((O.out.alloc _).grow hoa hga (hla.imp id fun e => by first | omega | (simp; omega)))
          have B1 := hide ((B.out.alloc B.out.size _).trans (Below.of_grown hga (by have := B.out.size; simp; omega) O.out.a.lt))
          clear hoa hga hla
          go_wp2_with (refine step_appendL rfl rfl rfl (O1.out.b.alloc _) (one_slB _ _ (by first | exact X2.out | decide)) (by omega) (by rw [L2.out]; omega) (by have := B1.out.size; simp; omega) ?_)
          intro g7 c7 wb1 hob hgb hlb
          have O2 := hide ((O1.out.swap.alloc _).grow hob hgb (hlb.imp id fun e => by first | omega | (simp; omega))).swap
          have B2 := hide ((B1.out.alloc B1.out.size _).trans (Below.of_grown hgb (by have := B1.out.size; simp; omega) O1.out.b.lt))
          clear hob hgb hlb O1 B1 O B
          go_wp2
          go_roundw
          case rel => exact ⟨k + 1, by omega, by go_num, by rw [← T1.out, ← T2.out]; exact O2.out, B2.out⟩
          case measure => simp [intOf]; omega
      · obtain rfl : k = 64 := by omega
        have OO := hide O.out
        rw [List.take_of_length_le (by rw [HKN.out]; exact Nat.le_refl _)] at OO
        have YR := hide (YS.out.below B.out)
        have LI := hide (show (mk 54 (kb xs)).length = 64 by rw [mk_length, HKN.out])
        have LO := hide (show (mk 92 (kb xs)).length = 64 by rw [mk_length, HKN.out])
        have EI : Hid (dg bL 0 (mk 54 (kb xs) ++ ys) = dg bL 0 (inn xs ++ ys)) := hide rfl
        have EO : Hid (dg bL 0 (mk 92 (kb xs) ++ dg bL 0 (inn xs ++ ys)) = mc xs ys) := hide rfl
        clear O L1 L2 SK
        go_wp2_with (refine step_append rfl rfl rfl OO.out.a YR.out (by rw [LI.out]; omega) B.out.size ?_)
        intro v6 wa hoa hga hna
        have Ba := hide (B.out.trans (Below.of_grown hga B.out.size OO.out.a.lt))
        have OB := hide (OO.out.other hga)
        have LIY := hide (show (mk 54 (kb xs) ++ ys).length = 64 + len1 by rw [List.length_append, LI.out, HY.out])
        have hna' : v6 ≠ .slice none 0 0 := fun e => by
          rcases hoa.2 with ⟨_, e2⟩ | ⟨_, _, _, e2, _⟩
          · rw [LIY.out] at e2; omega
          · rw [e] at e2; cases e2
        obtain ⟨gi, ci, ei, _, hsi⟩ := hoa.sl ((mk_isB 54 _ (by omega) HKB.out).append HYB.out) (by rw [LIY.out]; omega) hna'
        subst ei
        rw [LIY.out] at hsi ⊢
        have SI := hide hsi
        clear hoa hga hna hna' hsi OO B YR
        go_wp2_with fail
        refine (sumR_any _ _ _ (mk 54 (kb xs) ++ ys) _ SI.out (by omega)).mono ?_
        rintro e wb1 ⟨rfl, hbb⟩
        rw [EI.out]
        have OB2 := hide (OB.out.below hbb)
        have Bb := hide (Ba.out.trans (hbb.mono Ba.out.size))
        have HDI := hide (dg_length bL 0 (inn xs ++ ys) rfl)
        clear hbb OB Ba SI
        go_wp2_with (refine step_alloc zD0 rfl ?_)
        intro wc g10 hg10 hle10 hb10
        have G10 := hide hg10
        clear hg10
        go_wp2_with (refine step_storeA wD0 rfl rfl rfl G10.out (by rw [u8s_length]; exact HDI.out) (One.u8 _) rfl ?_)
        intro wd hgd hbutd
        have hbd := hb10.trans (hbutd.below hle10)
        have OB3 := hide (OB2.out.below hbd)
        have Bd := hide (Bb.out.trans (hbd.mono Bb.out.size))
        have SD := hide (hgd.sl0 (dg_isB _ _ _) (by rw [HDI.out]; omega))
        rw [HDI.out] at SD
        have hsl := slice_D0 g10
        clear hb10 hbutd hgd hbd OB2 Bb G10
        go_wp2_with (refine step_append rfl rfl rfl OB3.out SD.out (by rw [LO.out]; omega) Bd.out.size ?_)
        intro v7 we hoe hge hne
        have Be := hide (Bd.out.trans (Below.of_grown hge Bd.out.size OB3.out.lt))
        have LOD := hide (show (mk 92 (kb xs) ++ dg bL 0 (inn xs ++ ys)).length = 96 by rw [List.length_append, LO.out, HDI.out])
        have hne' : v7 ≠ .slice none 0 0 := fun e => by
          rcases hoe.2 with ⟨_, e2⟩ | ⟨_, _, _, e2, _⟩
          · rw [LOD.out] at e2; omega
          · rw [e] at e2; cases e2
        obtain ⟨go1, co, eo, _, hso⟩ := hoe.sl ((mk_isB 92 _ (by omega) HKB.out).append (dg_isB _ _ _)) (by rw [LOD.out]; omega) hne'
        subst eo
        rw [LOD.out] at hso ⊢
        have SO := hide hso
        clear hoe hge hne hne' hso OB3 SD Bd
        go_wp2_with fail
        refine (sumR_any _ _ _ (mk 92 (kb xs) ++ dg bL 0 (inn xs ++ ys)) _ SO.out (by omega)).mono ?_
        rintro e wf ⟨rfl, hbf⟩
        rw [EO.out]
        have Bf := hide (Be.out.trans (hbf.mono Be.out.size))
        have Gf := hide (G4S.out.below Bf.out G4S.out.lt)
        go_wp2_with (refine step_storeA wD rfl rfl rfl Gf.out HML.out (One.u8 _) rfl ?_; intro wg hgg hbutg)
        refine bodyPost_ret (results_wide rfl wD _ _ rfl hgg HML.out) rfl ⟨rfl, ?_⟩
        exact (HBS.out.trans (Bf.out.mono HBS.out.size)).trans (hbutg.below hle1)

end Go.Proofs.YtefaabmkcgdkiaaDoor
