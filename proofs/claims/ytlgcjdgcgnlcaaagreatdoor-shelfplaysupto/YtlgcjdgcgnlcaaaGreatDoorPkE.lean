/-
  Texts one behind the other: Zco Tpc Tpd Kqt Kqm0 ShZ Kqu Jls Sbh Kqj Kqm Kqn Sbi Kqo Zdd.
-/
import Derived.Test.YtlgcjdgcgnlcaaaGreatDoorPkD
import Derived.Test.YtlgcjdgcgnlcaaaGreatDoorTpb
import Derived.Deep.Cut
import Derived.Lib.SlicesS
import Derived.Test.YtlgcjdgcgnlcaaaGreatDoorPkB
import Derived.Sort.Walk0
import Derived.Ground.GgzProg
import Derived.Ground.SlgmProg
import Derived.Shelf.SlGeneric
import Derived.Shelf.SlIter.Nil
import Derived.Shelf.SortM.Plain
import Derived.Shelf.SortM.SortNone
import Derived.Test.YtlgcjdgcgnlcaaaGreatDoorProg
import Derived.Test.YtlgcjdgcgnlcaaaGreatDoorKmj
import Derived.Test.YtlgcjdgcgnlcaaaGreatDoorPkA
import Derived.Test.YtlgcjdgcgnlcaaaGreatDoorSsf
import Derived.Test.YtlgcjdgcgnlcaaaGreatDoorKql
import Derived.Shelf.SlSortCmp.NoneTotal

/-
  The document's Count and All.
-/
namespace Go.Proofs.YtlgcjdgcgnlcaaaGreatDoor
open Go.RowKit
set_option linter.unusedVariables false
set_option linter.unusedSimpArgs false
set_option maxRecDepth 100000

/-- A level that may be, in numbers. -/
theorem lvl_nat {h l : Int} (k : smE h l 0 = 0) : ∃ H L : Nat, h = (H : Int) ∧ l = (L : Int) ∧ isH H ∧ L ≤ 48 ∧ tFB H L 0 = true ∧ smB h l 0 = true := by
  have hb : smB h l 0 = true := by
    unfold smE at k
    split at k
    · assumption
    · cases k
  obtain ⟨H, L, I, rfl, rfl, e0, q⟩ := smB_nats hb
  obtain rfl : I = 0 := by omega
  exact ⟨H, L, rfl, rfl, (tFB_is q).1, (tFB_bd q).2.2.1, q, hb⟩
theorem lvl_bad {h l : Int} (k : ¬ smE h l 0 = 0) : smB h l 0 = false ∧ smE h l 0 = 2 := by
  unfold smE at k ⊢
  cases hb : smB h l 0 with
  | true => rw [hb] at k; simp at k
  | false => exact ⟨rfl, by simp⟩
section
variable (r s : Nat) (rs : List Rw) (R : Rm) (w : World) (hr : RkAt w r s rs R)
include hr
set_option maxHeartbeats 1000000 in
theorem countL_any (h l : Int) (n : Nat) (hn : smE h l 0 = 0 → Cn (play rs) h.toNat l.toNat n) (hwt : wt rs ≤ 1099511000000) : Calls Tryz.prog 8 #[.pointer (some ⟨r, 0, none⟩), .int .i64 h, .int .i64 l] w fun e w' =>
    e = .returned (.tuple #[.int .i64 (if smE h l 0 = 0 then (n : Int) else 0), .int .i64 (smE h l 0)]) ∧ Below w.heap.size w w' := by
  have HL := hide (fun W : World => levelR_any h l W)
  by_cases he : smE h l 0 = 0
  · obtain ⟨H, L, rfl, rfl, hh, hL, hv, hb⟩ := lvl_nat he
    have hcn := hn he
    simp only [Int.toNat_natCast] at hcn
    have HD := hide (fun (W : World) (hW : RkAt W r s rs R) => digestsL_any r s rs R W hW H L n hh hL hcn hwt)
    have hnw := hcn.wt hr.val
    have HR := hide hr
    have HLEN := hide (LT_len hcn)
    rw [if_pos he, he]
    rw [hb] at HL
    clear he hn hcn hh hv hb hr
    go_enter Tryz.func8, Tryz.ntmps8
    go_wp2_with fail
    refine (HL.out _).mono ?_
    rintro e w2 ⟨rfl, hb2⟩
    have HR2 := hide (HR.out.below hb2)
    have HB2 := hide hb2
    clear hb2
    go_wp2_with fail
    refine (HD.out _ HR2.out).mono ?_
    rintro e w3 ⟨v, rfl, ho, hb3⟩
    obtain ⟨a, c, rfl⟩ := row_slice ho
    rw [HLEN.out]
    have hdv : ((32 * n : Nat) : Int).tdiv 32 = (n : Int) := by rw [Int.tdiv_eq_ediv_of_nonneg (by omega)]; omega
    have hdv2 : ((32 * n : Nat) : Int) / 32 = (n : Int) := by omega
    have hb3 := on_below HB2.out hb3
    obtain ⟨N, HN⟩ : ∃ N, Hid (32 * n = N) := ⟨_, hide rfl⟩
    rw [HN.out] at hdv hdv2 ⊢
    clear ho
    go_wp2
    go_ret2
    exact ⟨rfl, hb3⟩
  · obtain ⟨hb, e2⟩ := lvl_bad he
    rw [if_neg he, e2]
    rw [hb] at HL
    clear he hn e2 hb hr
    go_enter Tryz.func8, Tryz.ntmps8
    go_wp2_with fail
    refine (HL.out _).mono ?_
    rintro e w2 ⟨rfl, hb2⟩
    go_wp2
    go_ret2
    exact ⟨rfl, hb2⟩
set_option maxHeartbeats 1000000 in
/-- The document's All of a level that may be: its digests as bytes. -/
theorem allL_ok (H L n : Nat) (he : smE (H : Int) (L : Int) 0 = 0) (hcn : Cn (play rs) H L n) (hwt : wt rs ≤ 1099511000000) : Calls Tryz.prog 49 #[.pointer (some ⟨r, 0, none⟩), .int .i64 (H : Int), .int .i64 (L : Int)] w fun e w' =>
    ∃ v, e = .returned v ∧ DOwn w' w.heap.size v n (LT (play rs) H L n) ∧ Below w.heap.size w w' := by
  have HL := hide (fun W : World => levelR_any (H : Int) (L : Int) W)
  obtain ⟨H', L', e1, e2, hh, hL, hv, hb⟩ := lvl_nat he
  obtain rfl : H = H' := by omega
  obtain rfl : L = L' := by omega
  have HD := hide (fun (W : World) (hW : RkAt W r s rs R) => digestsL_any r s rs R W hW H L n hh hL hcn hwt)
  have hnw := hcn.wt hr.val
  have HR := hide hr
  have HLEN := hide (LT_len hcn)
  have HIB : Hid (isB (LT (play rs) H L n)) := hide (by
    have hf : ∀ m, isB (fl (play rs) m) := fun m => by
      cases e : play rs m with
      | none => rw [fl_none e]; intro y hy; cases hy
      | some xs => rw [show fl (play rs) m = xs by simp [fl, e]]; exact hr.isb e
    intro y hy
    unfold LT at hy
    rcases List.mem_append.1 hy with hy | hy
    · unfold LB at hy
      obtain ⟨i, _, hy⟩ := List.mem_flatMap.1 hy
      exact hf _ y (List.mem_of_mem_take hy)
    · exact hf _ y (List.mem_of_mem_take hy))
  rw [hb] at HL
  clear he hcn hh hv hb hr e1 e2
  go_enter Tryz.func49, Tryz.ntmps49
  go_wp2_with fail
  refine (HL.out _).mono ?_
  rintro e w2 ⟨rfl, hb2⟩
  have HR2 := hide (HR.out.below hb2)
  have HB2 := hide hb2
  clear hb2
  go_wp2_with fail
  refine (HD.out _ HR2.out).mono ?_
  rintro e w3 ⟨v, rfl, ho, hb3⟩
  obtain ⟨a, c, rfl, hs3⟩ := ho.sl' HIB.out (by rw [HLEN.out]; omega)
  have HS3 := hide hs3
  have HB3 := hide (on_below HB2.out hb3)
  rw [HLEN.out] at HS3 ⊢
  clear ho hb3 hs3
  go_wp2_with fail
  refine (digestsR_any a n c (32 * n) _ _ HS3.out rfl (by omega)).mono ?_
  rintro e w4 ⟨v4, rfl, ho4, hb4⟩
  have HO4 := hide (ho4.base HB3.out.size)
  have HB4 := hide (on_below HB3.out hb4)
  clear ho4 hb4
  go_wp2
  go_ret
  exact ⟨_, rfl, HO4.out, HB4.out⟩
end
set_option maxHeartbeats 1000000 in
theorem allL_bad (r s : Nat) (rs : List Rw) (R : Rm) (w : World) (hr : RkAt w r s rs R) (h l : Int) (he : ¬ smE h l 0 = 0) : Calls Tryz.prog 49 #[.pointer (some ⟨r, 0, none⟩), .int .i64 h, .int .i64 l] w fun e w' =>
    e = .returned (.slice none 0 0) ∧ Below w.heap.size w w' := by
  have HL := hide (fun W : World => levelR_any h l W)
  obtain ⟨hb, e2⟩ := lvl_bad he
  rw [hb] at HL
  clear he e2 hb hr
  go_enter Tryz.func49, Tryz.ntmps49
  go_wp2_with fail
  refine (HL.out _).mono ?_
  rintro e w2 ⟨rfl, hb2⟩
  go_wp2
  go_ret
  exact ⟨rfl, hb2⟩

end Go.Proofs.YtlgcjdgcgnlcaaaGreatDoor

/-
  A text read as a tile's path, as the program does: number, guess.
-/
namespace Go.Proofs.YtlgcjdgcgnlcaaaGreatDoor
open Go.RowKit
set_option linter.unusedVariables false
set_option linter.unusedSimpArgs false

set_option maxRecDepth 100000 in
theorem number_any (s : List UInt8) (w : World) (hs : s.length ≤ 1048576) (hv : EV w) : Calls Tryz.prog 109 #[.string (bA s)] w fun r w' => r = .returned (.int .i64 (nuF s)) ∧ Below w.heap.size w w' := by
  by_cases h : ∃ v, Lib.atoiAll s = .ok v
  · obtain ⟨v, h⟩ := h
    have e : nuF s = v := by unfold nuF; rw [h]
    rw [e]
    have HA := hide (atoi_ok s v w hs h)
    clear e h hv
    go_enter Tryz.func109, Tryz.ntmps109
    go_wp2_with fail
    refine HA.out.mono ?_
    rintro r w1 ⟨rfl, hb⟩
    have HB := hide hb
    clear hb HA
    go_wp2
    go_ret
    exact ⟨rfl, HB.out⟩
  · have e : nuF s = -1 := by
      unfold nuF
      split
      · rename_i v hv2; exact absurd ⟨v, hv2⟩ h
      · rfl
    rw [e]
    have HA := hide (atoi_no s w hs hv (fun v hv2 => h ⟨v, hv2⟩))
    clear e h hv
    go_enter Tryz.func109, Tryz.ntmps109
    go_wp2_with fail
    refine HA.out.mono ?_
    rintro r w1 ⟨x, tp, p, rfl, hb⟩
    have HB := hide hb
    clear hb HA
    go_wp2
    go_ret
    exact ⟨rfl, HB.out⟩
theorem cut_le (s sep : List UInt8) : (Lib.cut s sep).1.length ≤ s.length ∧ (Lib.cut s sep).2.1.length ≤ s.length := by
  unfold Lib.cut
  split
  · simp only [List.length_take, List.length_drop]; omega
  · simp
theorem trim_le (s p : List UInt8) : (Lib.trimPrefix s p).length ≤ s.length := by
  unfold Lib.trimPrefix
  split
  · simp
  · exact Nat.le_refl _
theorem rep_le (s : List UInt8) (c : UInt8) : (Lib.replaceAll s [c] []).length ≤ s.length := by
  rw [repAll_filter]
  exact List.length_filter_le _ _
set_option maxRecDepth 100000 in
set_option maxHeartbeats 1000000 in
theorem guess_any (s : List UInt8) (w : World) (hs : s.length ≤ 1048576) (hv : EV w) : Calls Tryz.prog 93 #[.string (bA s)] w fun r w' => r = .returned (.agg (c4 (gH s) (gL s) (gI s) (gW s)).toArray) ∧ Below w.heap.size w w' := by
  have HV := hide hv
  obtain ⟨s0, hs0⟩ : ∃ x, Lib.trimPrefix s tileB = x := ⟨_, rfl⟩
  have l0 : s0.length ≤ 1048576 := by rw [← hs0]; exact Nat.le_trans (trim_le _ _) hs
  obtain ⟨c1, h1⟩ : ∃ x, gName s = x := ⟨_, rfl⟩
  have k1 : Lib.cut s0 markB = c1 := by rw [← h1, ← hs0]; rfl
  obtain ⟨c2, h2⟩ : ∃ x, gHt s = x := ⟨_, rfl⟩
  have k2 : Lib.cut c1.1 [47] = c2 := by rw [← h2, ← h1]; rfl
  obtain ⟨c3, h3⟩ : ∃ x, gLv s = x := ⟨_, rfl⟩
  have k3 : Lib.cut c2.2.1 [47] = c3 := by rw [← h3, ← h2]; rfl
  have m1 := cut_le s0 markB
  rw [k1] at m1
  have m2 := cut_le c1.1 [47]
  rw [k2] at m2
  have m3 := cut_le c2.2.1 [47]
  rw [k3] at m3
  obtain ⟨x1, hx1⟩ : ∃ x, Lib.replaceAll c3.2.1 [120] [] = x := ⟨_, rfl⟩
  obtain ⟨x2, hx2⟩ : ∃ x, Lib.replaceAll x1 [47] [] = x := ⟨_, rfl⟩
  have m4 := rep_le c3.2.1 120
  rw [hx1] at m4
  have m5 := rep_le x1 47
  rw [hx2] at m5
  have g1 : gH s = nuF c2.1 := by unfold gH; rw [h2]
  have g2 : gL s = nuF c3.1 := by unfold gL; rw [h3]
  have g3 : gI s = nuF x2 := by unfold gI gDg; rw [h3, hx1, hx2]
  have g4 : gW s = if c1.2.2 = false ∧ 1 ≤ gH s ∧ gH s ≤ 8 then 2 ^ (gH s).toNat else nuF c1.2.1 := by unfold gW; rw [h1]
  rw [g4, g1, g2, g3]
  obtain ⟨c11, c12, c13⟩ := c1
  obtain ⟨c21, c22, c23⟩ := c2
  obtain ⟨c31, c32, c33⟩ := c3
  simp only at *
  have HT := hide (fun v => trim_any s tileB v)
  rw [hs0] at HT
  have HC1 := hide (fun v hv => cutS_any s0 markB v l0 hv)
  rw [k1] at HC1
  have HC2 := hide (fun v hv => cutS_any c11 [47] v (by omega) hv)
  rw [k2] at HC2
  have HC3 := hide (fun v hv => cutS_any c22 [47] v (by omega) hv)
  rw [k3] at HC3
  have HR1 := hide (fun v hv => repl_any c32 120 v (by omega) hv)
  rw [hx1] at HR1
  have HR2 := hide (fun v hv => repl_any x1 47 v (by omega) hv)
  rw [hx2] at HR2
  have N1 := hide (fun v hv => number_any c21 v (by omega) hv)
  have N2 := hide (fun v hv => number_any c31 v (by omega) hv)
  have N3 := hide (fun v hv => number_any x2 v (by omega) hv)
  have N4 := hide (fun v hv => number_any c12 v (by omega) hv)
  have b1 := nuF_bd c21
  generalize nuF c21 = n1 at *
  generalize nuF c31 = n2 at *
  generalize nuF x2 = n3 at *
  generalize nuF c12 = n4 at *
  clear hs0 h1 k1 h2 k2 h3 k3 hx1 hx2 m1 m2 m3 m4 m5 g1 g2 g3 g4 l0 hv hs
  obtain ⟨RW, HRW⟩ : ∃ x, Hid ((if c13 = false ∧ 1 ≤ n1 ∧ n1 ≤ 8 then 2 ^ n1.toNat else n4) = x) := ⟨_, hide rfl⟩
  rw [HRW.out]
  go_enter Tryz.func93, Tryz.ntmps93
  go_wp2_with (refine step_alloc zT rfl ?_)
  intro w0 g2 hg hle hb
  have G0 := hide hg
  have B0 := hide hb
  have LE := hide hle
  clear hg hb hle
  go_wp2_with fail
  refine (HT.out _).mono ?_
  rintro r w0' ⟨rfl, e0⟩
  subst e0
  clear HT
  go_wp2_with fail
  refine (HC1.out _ (HV.out.below B0.out)).mono ?_
  rintro r w1 ⟨rfl, hb⟩
  have G1 := hide (G0.out.on hb)
  have B1 := hide (on_below B0.out hb)
  clear hb G0 B0 HC1
  go_wp2_with fail
  refine (HC2.out _ (HV.out.below B1.out)).mono ?_
  rintro r w2 ⟨rfl, hb⟩
  have G2 := hide (G1.out.on hb)
  have B2 := hide (on_below B1.out hb)
  clear hb G1 B1 HC2
  go_wp2_with fail
  refine (HC3.out _ (HV.out.below B2.out)).mono ?_
  rintro r w3 ⟨rfl, hb⟩
  have G3 := hide (G2.out.on hb)
  have B3 := hide (on_below B2.out hb)
  clear hb G2 B2 HC3
  go_wp2_with fail
  refine (HR1.out _ (HV.out.below B3.out)).mono ?_
  rintro r w4 ⟨rfl, hb⟩
  have G4 := hide (G3.out.on hb)
  have B4 := hide (on_below B3.out hb)
  clear hb G3 B3 HR1
  go_wp2_with fail
  refine (HR2.out _ (HV.out.below B4.out)).mono ?_
  rintro r w5 ⟨rfl, hb⟩
  have G5 := hide (G4.out.on hb)
  have B5 := hide (on_below B4.out hb)
  clear hb G4 B4 HR2
  go_wp2_with fail
  refine (N1.out _ (HV.out.below B5.out)).mono ?_
  rintro r w6 ⟨rfl, hb⟩
  have G6 := hide (G5.out.on hb)
  have B6 := hide (on_below B5.out hb)
  clear hb G5 B5 N1
  go_wp2_with fail
  refine (N2.out _ (HV.out.below B6.out)).mono ?_
  rintro r w7 ⟨rfl, hb⟩
  have G7 := hide (G6.out.on hb)
  have B7 := hide (on_below B6.out hb)
  clear hb G6 B6 N2
  go_wp2_with fail
  refine (N3.out _ (HV.out.below B7.out)).mono ?_
  rintro r w8 ⟨rfl, hb⟩
  have G8 := hide (G7.out.on hb)
  have B8 := hide (on_below B7.out hb)
  clear hb G7 B7 N3
  go_wp2_with fail
  refine (N4.out _ (HV.out.below B8.out)).mono ?_
  rintro r w9 ⟨rfl, hb⟩
  have G9 := hide (G8.out.on hb)
  have B9 := hide (on_below B8.out hb)
  clear hb G8 B8 N4
  go_wp2_with (first | (refine step_alloc zT rfl ?_; intro wa ga hga hlea hba; have HGA := hide hga; clear hga) | (refine step_storeA wT rfl rfl rfl HGA.out rfl (One.c4 n1 n2 n3 n4) rfl ?_))
  intro wb hgb hbutb
  have hbb : Below w9.heap.size w9 wb := hba.trans (hbutb.below hlea)
  have Gb := hide (G9.out.on hbb)
  have Bb := hide (on_below B9.out hbb)
  have Tb := hide hgb
  have hne : g2 ≠ ga := by have := G9.out.lt; omega
  have LA := hide (Nat.le_trans B9.out.size hlea)
  clear hbb hba hbutb hlea HGA hgb G9 B9 HV
  obtain ⟨t0, t1, t2, t3⟩ := Tb.out.four
  cases c13 with
  | true =>
    obtain rfl : n4 = RW := by rw [← HRW.out, if_neg (by simp)]
    go_wp2_with (first | (refine step_loadA wT rfl rfl Tb.out rfl ?_) | (refine step_storeA wT rfl rfl rfl Gb.out rfl (One.c4 n1 n2 n3 n4) rfl ?_))
    intro wc hgc hbutc
    have BE := hide (Bb.out.trans (hbutc.below LE.out))
    go_wp2
    refine bodyPost_ret (results_wide rfl wT _ _ rfl hgc rfl) rfl ⟨rfl, BE.out⟩
  | false =>
    by_cases hh : 1 ≤ n1 ∧ n1 ≤ 8
    · obtain ⟨H, rfl⟩ : ∃ H : Nat, n1 = (H : Int) := ⟨n1.toNat, by omega⟩
      have hH : isH H := ⟨by omega, by omega⟩
      have HH := hide (fun v => isHeight_yes H v hH)
      obtain ⟨P, hP⟩ : ∃ P, 2 ^ H = P := ⟨_, rfl⟩
      obtain ⟨p1, p2, p3, p4⟩ := pow_w hP hH
      have HPW := hide p1
      have eP : (2 : Int) ^ ((H : Int).toNat) = (P : Int) := by rw [Int.toNat_natCast, ← hP]; simp [Int.natCast_pow]
      obtain rfl : (P : Int) = RW := by rw [← HRW.out, if_pos ⟨rfl, hh⟩, eP]
      clear p1 p2 hP eP hH b1 HRW
      have f3 := Tb.out.free 3
      go_upto_region 8 with (first | (go_at_call 98; refine (HH.out _).mono ?_; rintro r w' ⟨rfl, hv⟩; replace hv := hv.symm; subst hv) | (simp only [HPW.out]))
      obtain ⟨wx, hwx⟩ : ∃ v : World, v = wb.setCell ⟨ga, 3, none⟩ (.int .i64 (P : Int)) := ⟨_, rfl⟩
      have Tx : Hid (Blk wx ga 43 (c4 (H : Int) n2 n3 (P : Int))) := hide (by rw [hwx]; exact Tb.out.set 3 _)
      have hbutx : But ga wb wx := by rw [hwx]; exact But.setCell _ _ _ _
      have Gx := hide (Gb.out.but hbutx hne)
      have Bx := hide (Bb.out.trans (hbutx.below LA.out))
      rw [← hwx]
      clear hwx hbutx Tb Gb Bb t0 t1 t2 t3 f3
      go_wp2_with (first | (refine step_loadA wT rfl rfl Tx.out rfl ?_) | (refine step_storeA wT rfl rfl rfl Gx.out rfl (One.c4 (H : Int) n2 n3 (P : Int)) rfl ?_))
      intro wc hgc hbutc
      have BE := hide (Bx.out.trans (hbutc.below LE.out))
      go_wp2
      refine bodyPost_ret (results_wide rfl wT _ _ rfl hgc rfl) rfl ⟨rfl, BE.out⟩
    · obtain rfl : n4 = RW := by rw [← HRW.out, if_neg (fun h => hh h.2)]
      have HH := hide (fun v => isHeight_no n1 v (by omega))
      go_wp2_with (first | (go_at_call 98; refine (HH.out _).mono ?_; rintro r w' ⟨rfl, rfl⟩) | (refine step_loadA wT rfl rfl Tb.out rfl ?_) | (refine step_storeA wT rfl rfl rfl Gb.out rfl (One.c4 n1 n2 n3 n4) rfl ?_))
      intro wc hgc hbutc
      have BE := hide (Bb.out.trans (hbutc.below LE.out))
      go_wp2
      refine bodyPost_ret (results_wide rfl wT _ _ rfl hgc rfl) rfl ⟨rfl, BE.out⟩
end Go.Proofs.YtlgcjdgcgnlcaaaGreatDoor

/-
  A text read as a tile's path: the program's Parse.
-/
namespace Go.Proofs.YtlgcjdgcgnlcaaaGreatDoor
open Go.RowKit
set_option linter.unusedVariables false
set_option linter.unusedSimpArgs false

theorem beq_bA (p q : List UInt8) : ((bA p).toList == (bA q).toList) = decide (p = q) := by
  by_cases h : p = q
  · subst h; simp
  · rw [decide_eq_false h, Lib.bytes_beq_false_iff]
    exact fun e => h (bA_inj e)
theorem run_neL {dst : Option Tmp} {ty : TypeId} {pos : String} {aft : Array Edge} {gd : Option (Nat × Bool)} {a : Act} {w : World} {x y : Operand} {p q : List UInt8} (hx : a.eval x = .string (bA p)) (hy : a.eval y = .string (bA q)) :
    (execOp a.eval ⟨dst, .binOp .neq 9 x y 9, ty, pos, aft, gd⟩).run Tryz.prog w = .ok (.value (.bool (!decide (p = q)))) w := by
  have e := beq_bA p q
  unfold execOp
  simp only [hx, hy]
  simp [go_sem]
  rw [← e]
section
variable {dst : Option Tmp} {ty : TypeId} {pos : String} {aft : Array Edge} {gd : Option (Nat × Bool)} {ops : Array Oper} {rest : List Oper} {a : Act} {w : World} {Q : Exit → Act → World → Prop}
theorem step_neL {x y : Operand} {p q : List UInt8} (z : Bool) (hq : (!decide (p = q)) = z) (hw : Region.wanted ⟨dst, .binOp .neq 9 x y 9, ty, pos, aft, gd⟩ (yielded ops a.tmps) = true) (hx : a.eval x = .string (bA p)) (hy : a.eval y = .string (bA q))
    (h : wpList Tryz.prog ops Q rest (a.put dst (.bool z)) w) : wpList Tryz.prog ops Q (⟨dst, .binOp .neq 9 x y 9, ty, pos, aft, gd⟩ :: rest) a w :=
  step_run hw (.bool z) w (by rw [run_neL hx hy, hq]) h
end
theorem g_bd (s : List UInt8) : gL s ≤ 9223372036854775807 ∧ gI s ≤ 9223372036854775807 := ⟨(nuF_bd _).2, (nuF_bd _).2⟩
/-- What Parse tells of any text. -/
def PrR (s : List UInt8) (h l i n e : Int) : Prop := (e = 0 ∧ tOK h l i n ∧ pathI h l i n = s) ∨ (e = 100 ∧ h = 0 ∧ l = 0 ∧ i = 0 ∧ n = 0 ∧ ¬ ∃ h l i n, tOK h l i n ∧ pathI h l i n = s)
theorem pathI_inj {h l i n h' l' i' n' : Int} (k : tOK h l i n) (k' : tOK h' l' i' n') (e : pathI h l i n = pathI h' l' i' n') : h = h' ∧ l = l' ∧ i = i' ∧ n = n' := by
  obtain ⟨a1, a2, a3, a4⟩ := pathI_g k
  obtain ⟨b1, b2, b3, b4⟩ := pathI_g k'
  rw [e] at a1 a2 a3 a4
  exact ⟨a1.symm.trans b1, a2.symm.trans b2, a3.symm.trans b3, a4.symm.trans b4⟩
theorem PrR.uniq {s : List UInt8} {h l i n e h' l' i' n' e' : Int} (k : PrR s h l i n e) (k' : PrR s h' l' i' n' e') : h = h' ∧ l = l' ∧ i = i' ∧ n = n' ∧ e = e' := by
  rcases k with ⟨rfl, k, q⟩ | ⟨rfl, rfl, rfl, rfl, rfl, k⟩ <;> rcases k' with ⟨rfl, k', q'⟩ | ⟨rfl, rfl, rfl, rfl, rfl, k'⟩
  · obtain ⟨a, b, c, d⟩ := pathI_inj k k' (q.trans q'.symm)
    exact ⟨a, b, c, d, rfl⟩
  · exact absurd ⟨_, _, _, _, k, q⟩ k'
  · exact absurd ⟨_, _, _, _, k', q'⟩ k
  · exact ⟨rfl, rfl, rfl, rfl, rfl⟩
set_option maxRecDepth 100000 in
set_option maxHeartbeats 1000000 in
theorem parse_any (s : List UInt8) (hs : s.length ≤ 1048576) : ∃ h l i n e : Int, PrR s h l i n e ∧ ∀ w : World, EV w → Calls Tryz.prog 71 #[.string (bA s)] w fun r w' => r = .returned (.tuple #[.agg (c4 h l i n).toArray, .int .i64 e]) ∧ Below w.heap.size w w' := by
  have hg := g_bd s
  obtain ⟨p, e, hp, hc⟩ := path_any (gH s) (gL s) (gI s) (gW s) hg.1 hg.2
  have HGu := hide (fun v hv => guess_any s v hs hv)
  have HPt := hide hc
  by_cases hk : tOK (gH s) (gL s) (gI s) (gW s) ∧ pathI (gH s) (gL s) (gI s) (gW s) = s
  · obtain ⟨rfl, rfl⟩ : e = 0 ∧ p = s := by
      rcases hp with ⟨h1, h2, h3⟩ | ⟨h1, h2, h3⟩
      · exact ⟨h1, h3.trans hk.2⟩
      · exact absurd hk.1 h2
    refine ⟨_, _, _, _, 0, .inl ⟨rfl, hk⟩, fun w hv => ?_⟩
    have HV := hide hv
    clear hv hp hc hk hg
    generalize gH p = t1 at *
    generalize gL p = t2 at *
    generalize gI p = t3 at *
    generalize gW p = t4 at *
    go_enter Tryz.func71, Tryz.ntmps71
    go_wp2_with (refine step_alloc zT rfl ?_)
    intro w0 g2 hg hle hb
    have G0 := hide hg
    have B0 := hide hb
    have LE := hide hle
    clear hg hb hle
    go_wp2_with fail
    refine (HGu.out _ (HV.out.below B0.out)).mono ?_
    rintro r w1 ⟨rfl, hb1⟩
    have G1 := hide (G0.out.on hb1)
    have B1 := hide (on_below B0.out hb1)
    clear hb1 G0 B0 HGu
    go_wp2_with (first | (refine step_alloc zT rfl ?_; intro wa ga hga hlea hba; have HGA := hide hga; clear hga) | (refine step_storeA wT rfl rfl rfl HGA.out rfl (One.c4 t1 t2 t3 t4) rfl ?_))
    intro wb hgb hbutb
    have hbb : Below w1.heap.size w1 wb := hba.trans (hbutb.below hlea)
    have Gb := hide (G1.out.on hbb)
    have Bb := hide (on_below B1.out hbb)
    have Tb := hide hgb
    clear hbb hba hbutb hlea HGA hgb G1 B1
    go_wp2_with (refine step_loadA wT rfl rfl Tb.out rfl ?_)
    refine (HPt.out _ (HV.out.below Bb.out).pt).mono ?_
    rintro r wc ⟨rfl, hbc⟩
    have Gc := hide (Gb.out.on hbc)
    have Tc := hide (Tb.out.on hbc)
    have Bc := hide (on_below Bb.out hbc)
    clear Gb Tb Bb hbc HPt HV
    go_wp2_with (first | (refine step_neL (p := p) (q := p) false (by simp) rfl rfl rfl ?_) | (refine step_loadA wT rfl rfl Tc.out rfl ?_) | (refine step_storeA wT rfl rfl rfl Gc.out rfl (One.c4 t1 t2 t3 t4) rfl ?_))
    intro wd hgd hbutd
    have BE := hide (Bc.out.trans (hbutd.below LE.out))
    go_wp2
    refine bodyPost_ret (results_wide2 rfl wT _ _ rfl hgd rfl) rfl ⟨rfl, BE.out⟩
  · refine ⟨0, 0, 0, 0, 100, .inr ⟨rfl, rfl, rfl, rfl, rfl, fun ⟨a, b, c, d, k1, k2⟩ => hk ?_⟩, fun w hv => ?_⟩
    · obtain ⟨e1, e2, e3, e4⟩ := pathI_g k1
      rw [k2] at e1 e2 e3 e4
      rw [e1, e2, e3, e4]
      exact ⟨k1, k2⟩
    · have HV := hide hv
      by_cases he : e = 0
      · subst he
        have hne : p ≠ s := by
          rcases hp with ⟨_, h2, h3⟩ | ⟨h1, _, _⟩
          · exact fun h => hk ⟨h2, h3.symm.trans h⟩
          · cases h1
        clear hv hp hc hk hg
        generalize gH s = t1 at *
        generalize gL s = t2 at *
        generalize gI s = t3 at *
        generalize gW s = t4 at *
        go_enter Tryz.func71, Tryz.ntmps71
        go_wp2_with (refine step_alloc zT rfl ?_)
        intro w0 g2 hg hle hb
        have G0 := hide hg
        have B0 := hide hb
        have LE := hide hle
        clear hg hb hle
        go_wp2_with fail
        refine (HGu.out _ (HV.out.below B0.out)).mono ?_
        rintro r w1 ⟨rfl, hb1⟩
        have G1 := hide (G0.out.on hb1)
        have B1 := hide (on_below B0.out hb1)
        clear hb1 G0 B0 HGu
        go_wp2_with (first | (refine step_alloc zT rfl ?_; intro wa ga hga hlea hba; have HGA := hide hga; clear hga) | (refine step_storeA wT rfl rfl rfl HGA.out rfl (One.c4 t1 t2 t3 t4) rfl ?_))
        intro wb hgb hbutb
        have hbb : Below w1.heap.size w1 wb := hba.trans (hbutb.below hlea)
        have Gb := hide (G1.out.on hbb)
        have Bb := hide (on_below B1.out hbb)
        have Tb := hide hgb
        clear hbb hba hbutb hlea HGA hgb G1 B1
        go_wp2_with (refine step_loadA wT rfl rfl Tb.out rfl ?_)
        refine (HPt.out _ (HV.out.below Bb.out).pt).mono ?_
        rintro r wc ⟨rfl, hbc⟩
        have Gc := hide (Gb.out.on hbc)
        have Tc := hide (Tb.out.on hbc)
        have Bc := hide (on_below Bb.out hbc)
        clear Gb Tb Bb hbc HPt HV
        go_wp2_with (first | (refine step_neL (p := p) (q := s) true (by simp [hne]) rfl rfl rfl ?_) | (refine step_storeA wT rfl rfl (vs := c4 0 0 0 0) rfl Gc.out rfl (One.c4 0 0 0 0) rfl ?_))
        intro wd hgd hbutd
        have BE := hide (Bc.out.trans (hbutd.below LE.out))
        go_wp2
        refine bodyPost_ret (results_wide2 rfl wT _ _ rfl hgd rfl) rfl ⟨rfl, BE.out⟩
      · have heb : ¬ e = 0 := he
        have he2 : e = 2 := by
          rcases hp with ⟨h1, _, _⟩ | ⟨h1, _, _⟩
          · exact absurd h1 he
          · exact h1
        subst he2
        clear hv hp hc hk hg he heb
        generalize gH s = t1 at *
        generalize gL s = t2 at *
        generalize gI s = t3 at *
        generalize gW s = t4 at *
        go_enter Tryz.func71, Tryz.ntmps71
        go_wp2_with (refine step_alloc zT rfl ?_)
        intro w0 g2 hg hle hb
        have G0 := hide hg
        have B0 := hide hb
        have LE := hide hle
        clear hg hb hle
        go_wp2_with fail
        refine (HGu.out _ (HV.out.below B0.out)).mono ?_
        rintro r w1 ⟨rfl, hb1⟩
        have G1 := hide (G0.out.on hb1)
        have B1 := hide (on_below B0.out hb1)
        clear hb1 G0 B0 HGu
        go_wp2_with (first | (refine step_alloc zT rfl ?_; intro wa ga hga hlea hba; have HGA := hide hga; clear hga) | (refine step_storeA wT rfl rfl rfl HGA.out rfl (One.c4 t1 t2 t3 t4) rfl ?_))
        intro wb hgb hbutb
        have hbb : Below w1.heap.size w1 wb := hba.trans (hbutb.below hlea)
        have Gb := hide (G1.out.on hbb)
        have Bb := hide (on_below B1.out hbb)
        have Tb := hide hgb
        clear hbb hba hbutb hlea HGA hgb G1 B1
        go_wp2_with (refine step_loadA wT rfl rfl Tb.out rfl ?_)
        refine (HPt.out _ (HV.out.below Bb.out).pt).mono ?_
        rintro r wc ⟨rfl, hbc⟩
        have Gc := hide (Gb.out.on hbc)
        have Tc := hide (Tb.out.on hbc)
        have Bc := hide (on_below Bb.out hbc)
        clear Gb Tb Bb hbc HPt HV
        go_wp2_with (refine step_storeA wT rfl rfl (vs := c4 0 0 0 0) rfl Gc.out rfl (One.c4 0 0 0 0) rfl ?_)
        intro wd hgd hbutd
        have BE := hide (Bc.out.trans (hbutd.below LE.out))
        go_wp2
        refine bodyPost_ret (results_wide2 rfl wT _ _ rfl hgd rfl) rfl ⟨rfl, BE.out⟩
end Go.Proofs.YtlgcjdgcgnlcaaaGreatDoor

/-
  The names of a disk's files, sorted: the document's list.
-/
namespace Go.Proofs.YtlgcjdgcgnlcaaaGreatDoor
open Go.RowKit
set_option linter.unusedVariables false

theorem le_iff (x y : List UInt8) : decide (x ≤ y) = !Op.bytesLess y x := by
  rw [bytesLess_eq]
  rw [← decide_not]
  exact decide_eq_decide.2 Iff.rfl
theorem perm_of_mem {α : Type} : ∀ {a b : List α}, a.Nodup → b.Nodup → (∀ x, x ∈ a ↔ x ∈ b) → a.Perm b
  | [], b, _, _, h => by
    cases b with
    | nil => exact List.Perm.refl _
    | cons y t => have := (h y).2 (by simp); cases this
  | x :: a, b, ha, hb, h => by
    obtain ⟨s, t, rfl⟩ := List.append_of_mem ((h x).1 (by simp))
    have hx : x ∉ a := (List.nodup_cons.1 ha).1
    have hp : (s ++ x :: t).Perm (x :: (s ++ t)) := List.perm_middle
    have hb2 := hp.nodup_iff.1 hb
    have hx2 : x ∉ s ++ t := (List.nodup_cons.1 hb2).1
    refine (List.Perm.cons x (perm_of_mem (List.nodup_cons.1 ha).2 (List.nodup_cons.1 hb2).2 (fun z => ?_))).trans hp.symm
    have hz := h z
    rw [hp.mem_iff] at hz
    simp only [List.mem_cons] at hz
    constructor
    · intro hm
      rcases hz.1 (.inr hm) with e | e
      · subst e; exact absurd hm hx
      · exact e
    · intro hm
      rcases hz.2 (.inr hm) with e | e
      · subst e; exact absurd hm hx2
      · exact e
theorem sort_names {f : ByteArray → Option (List Int)} {l : List (ByteArray × List Int)} (h : FL f l) {ns : List ByteArray} (hn : ns.Nodup) (hm : ∀ n, n ∈ ns ↔ (f n).isSome = true) {ss : List (List UInt8)} (hp : ss.Perm (ns.map fun x => x.toList)) :
    ss.mergeSort (fun x y => decide (x ≤ y)) = l.map (fun x => x.1.toList) := by
  have hle : ∀ x y : List UInt8, decide (x ≤ y) = true ↔ Op.bytesLess y x = false := fun x y => by rw [le_iff]; simp
  have hlsrt : (l.map fun x => x.1.toList).Pairwise (fun x y => decide (x ≤ y) = true) := by
    rw [List.pairwise_map]
    refine h.srt.imp (fun {a b} hab => ?_)
    rw [hle]
    cases hba : Op.bytesLess b.1.toList a.1.toList with
    | false => rfl
    | true => have := bl_trans _ _ _ hab hba; rw [bl_irr] at this; cases this
  have hlnd : (l.map fun x => x.1).Nodup := by
    rw [List.Nodup, List.pairwise_map]
    exact h.srt.imp (fun {a b} hab => blt_ne hab)
  have hperm : ns.Perm (l.map fun x => x.1) := perm_of_mem hn hlnd (fun n => by
    rw [hm]
    constructor
    · intro hs
      cases hf : f n with
      | none => rw [hf] at hs; cases hs
      | some xs => exact List.mem_map.2 ⟨(n, xs), (h.mem n xs).1 hf, rfl⟩
    · intro hs
      obtain ⟨x, hx, rfl⟩ := List.mem_map.1 hs
      rw [(h.mem x.1 x.2).2 hx]
      rfl)
  have hp2 : (ss.mergeSort (fun x y => decide (x ≤ y))).Perm (l.map fun x => x.1.toList) := by
    refine (List.mergeSort_perm _ _).trans (hp.trans ?_)
    have := hperm.map (fun x : ByteArray => x.toList)
    rw [List.map_map] at this
    exact this
  refine hp2.eq_of_pairwise (le := fun x y => decide (x ≤ y) = true) (fun a b _ _ h1 h2 => ?_) (List.pairwise_mergeSort (fun a b c h1 h2 => ?_) (fun a b => ?_) ss) hlsrt
  · rw [hle] at h1 h2
    by_cases e : a = b
    · exact e
    · have := bl_tot a b e h2
      rw [h1] at this
      cases this
  · rw [hle] at h1 h2 ⊢
    cases hca : Op.bytesLess c a with
    | false => rfl
    | true =>
      by_cases e : b = a
      · subst e; rw [h2] at hca; cases hca
      · have h3 := bl_tot b a e h1
        have h4 := bl_trans _ _ _ hca h3
        rw [h2] at h4
        cases h4
  · cases hba : Op.bytesLess b a with
    | false => rw [le_iff, hba]; rfl
    | true =>
      have : Op.bytesLess a b = false := by
        cases hab : Op.bytesLess a b with
        | false => rfl
        | true => have := bl_trans _ _ _ hab hba; rw [bl_irr] at this; cases this
      rw [le_iff b a, this]
      simp

end Go.Proofs.YtlgcjdgcgnlcaaaGreatDoor

/-
  Slices of names.
-/
namespace Go.Proofs.YtlgcjdgcgnlcaaaGreatDoor
open Go.RowKit
set_option linter.unusedVariables false

theorem rSt : Ro 91 9 1 16 (.string ByteArray.empty) := ⟨by kernel_rfl, by kernel_rfl, by kernel_rfl, rfl, by decide, by decide, fun w => by kernel_rfl⟩
theorem build_S (n : ByteArray) (w : World) : (Instr.buildSlice 91 1 #[(0, .string n)]).run Tryz.prog w = .ok (.slice (some ⟨w.heap.size, 0, none⟩) 1 1) (w.alloc (.cells #[.string n] 9)) := by kernel_rfl
section
variable {dst : Option Tmp} {ty : TypeId} {pos : String} {aft : Array Edge} {gd : Option (Nat × Bool)} {ops : Array Oper} {rest : List Oper} {a : Act} {w : World} {Q : Exit → Act → World → Prop}
set_option maxRecDepth 100000 in
theorem step_oneS {x : Operand} {n : ByteArray} (hw : Region.wanted ⟨dst, .buildSlice 91 1 #[(0, x)], ty, pos, aft, gd⟩ (yielded ops a.tmps) = true) (hx : a.eval x = .string n) (h : ∀ w1 v, Vw w1 9 1 v 1 [.string n] → Below w.heap.size w w1 → wpList Tryz.prog ops Q rest (a.put dst v) w1) :
    wpList Tryz.prog ops Q (⟨dst, .buildSlice 91 1 #[(0, x)], ty, pos, aft, gd⟩ :: rest) a w := by
  refine step_run hw (.slice (some ⟨w.heap.size, 0, none⟩) 1 1) (w.alloc (.cells #[.string n] 9)) ?_ (h _ _ ⟨rfl, _, _, rfl, Nat.le_refl _, fun _ => ⟨_, 0, [.string n], rfl, Blk.made w 9 [.string n], rfl⟩⟩ ((Below.refl _ _).alloc (Nat.le_refl _) _))
  unfold execOp
  simp only [List.map_toArray, List.map_cons, List.map_nil, hx]
  simp only [Sem.run_bind, build_S, Result.andThen_ok, Sem.run_pure]
end
def nmsC (l : List (ByteArray × List Int)) : List Value := l.map fun x => .string x.1
theorem nmsC_succ (l : List (ByteArray × List Int)) {k : Nat} {x : ByteArray × List Int} (h : l[k]? = some x) : nmsC (l.take (k + 1)) = nmsC (l.take k) ++ [.string x.1] := by
  obtain ⟨hi, rfl⟩ := List.getElem?_eq_some_iff.1 h
  rw [List.take_succ_eq_append_getElem hi]
  unfold nmsC
  rw [List.map_append]
  rfl

end Go.Proofs.YtlgcjdgcgnlcaaaGreatDoor

/-
  The library's functions at this program: the numbers, and that their bodies are the library's.
-/
namespace Go.Proofs
open Go.Shelf
def Tryz.lKeys_ren : Go.Shelf.Ren := ⟨fun | 7 => 82 | 10 => 103 | n => n, fun | 23 => 52 | 26 => 9 | 3 => 44 | 28 => 102 | 0 => 0 | 27 => 101 | 33 => 145 | 4 => 4 | n => n, fun | n => n⟩
theorem Tryz.lKeys : Go.Proofs.SlLaysZ.n7 Tryz.prog Tryz.lKeys_ren := {
  mixed := by kernel_rfl
  f7 := ⟨Tryz.f82.name, by decide, Tryz.func82.trans (congrArg some (by kernel_rfl))⟩
  f10 := ⟨Tryz.f103.name, by decide, Tryz.func103.trans (congrArg some (by kernel_rfl))⟩
  t0 := Tryz.underlying0
  a0 := Tryz.isAgg0
  z0 := Tryz.sizeOf0
  v0 := Tryz.zeroValue0
  t4 := Tryz.underlying4
  a4 := Tryz.isAgg4
  z4 := Tryz.sizeOf4
  v4 := Tryz.zeroValue4
  t23 := Tryz.underlying52
  a23 := Tryz.isAgg52
  z23 := Tryz.sizeOf52
  v23 := Tryz.zeroValue52
  t26 := Tryz.underlying9
  a26 := Tryz.isAgg9
  z26 := Tryz.sizeOf9
  v26 := Tryz.zeroValue9
  t27 := Tryz.underlying101
  a27 := Tryz.isAgg101
  z27 := Tryz.sizeOf101
  v27 := Tryz.zeroValue101
  t28 := Tryz.underlying102
  a28 := Tryz.isAgg102
  z28 := Tryz.sizeOf102
  v28 := Tryz.zeroValue102
  t33 := Tryz.underlying145
  a33 := Tryz.isAgg145
  z33 := Tryz.sizeOf145
  v33 := Tryz.zeroValue145 }
def Tryz.lSorted_ren : Go.Shelf.Ren := ⟨fun | 6 => 81 | 8 => 101 | 9 => 102 | 11 => 120 | 13 => 95 | 12 => 121 | 23 => 118 | 24 => 119 | 14 => 132 | 15 => 133 | 16 => 134 | 17 => 135 | 18 => 136 | 19 => 137 | 20 => 138 | 21 => 139 | 22 => 140 | 25 => 156 | 26 => 128 | 27 => 129 | 28 => 157 | 29 => 158 | 30 => 159 | 31 => 178 | n => n, fun | 26 => 9 | 28 => 102 | 24 => 91 | 0 => 0 | 3 => 3 | 37 => 130 | 48 => 170 | 50 => 172 | 4 => 4 | 40 => 164 | 39 => 163 | 45 => 132 | 5 => 5 | 9 => 9 | 51 => 181 | 55 => 185 | 57 => 206 | 58 => 35 | 33 => 145 | n => n, fun | n => n⟩
theorem Tryz.lSorted : Go.Proofs.SlLaysZ.n6 Tryz.prog Tryz.lSorted_ren := {
  mixed := by kernel_rfl
  f6 := ⟨Tryz.f81.name, by decide, Tryz.func81.trans (congrArg some (by kernel_rfl))⟩
  f8 := ⟨Tryz.f101.name, by decide, Tryz.func101.trans (congrArg some (by kernel_rfl))⟩
  f11 := ⟨Tryz.f120.name, by decide, Tryz.func120.trans (congrArg some (by kernel_rfl))⟩
  t0 := Tryz.underlying0
  a0 := Tryz.isAgg0
  z0 := Tryz.sizeOf0
  v0 := Tryz.zeroValue0
  t24 := Tryz.underlying91
  a24 := Tryz.isAgg91
  z24 := Tryz.sizeOf91
  v24 := Tryz.zeroValue91
  t26 := Tryz.underlying9
  a26 := Tryz.isAgg9
  z26 := Tryz.sizeOf9
  v26 := Tryz.zeroValue9
  t28 := Tryz.underlying102
  a28 := Tryz.isAgg102
  z28 := Tryz.sizeOf102
  v28 := Tryz.zeroValue102
  i26 := by kernel_rfl }
def Tryz.lSort_ren : Go.Shelf.Ren := ⟨fun | 6 => 102 | 8 => 95 | 9 => 121 | 19 => 118 | 20 => 119 | 21 => 132 | 22 => 133 | 23 => 134 | 24 => 135 | 25 => 136 | 26 => 137 | 27 => 138 | 28 => 139 | 29 => 140 | 36 => 156 | 31 => 128 | 32 => 129 | 37 => 157 | 38 => 158 | 39 => 159 | 41 => 178 | n => n, fun | 27 => 91 | 29 => 9 | 3 => 3 | 32 => 130 | 26 => 91 | 0 => 0 | 44 => 170 | 46 => 172 | 4 => 4 | 36 => 164 | 35 => 163 | 41 => 132 | 5 => 5 | 9 => 9 | 53 => 181 | 57 => 185 | 63 => 206 | 64 => 35 | n => n, fun | n => n⟩
theorem Tryz.lSort : Go.Proofs.SlLaysM.n6 Tryz.prog Tryz.lSort_ren := {
  mixed := by kernel_rfl
  f6 := ⟨Tryz.f102.name, by decide, Tryz.func102.trans (congrArg some (by kernel_rfl))⟩
  f8 := Tryz.func95.trans (congrArg some (by kernel_rfl))
  f9 := ⟨Tryz.f121.name, by decide, Tryz.func121.trans (congrArg some (by kernel_rfl))⟩
  f19 := Tryz.func118.trans (congrArg some (by kernel_rfl))
  f20 := Tryz.func119.trans (congrArg some (by kernel_rfl))
  f21 := ⟨Tryz.f132.name, by decide, Tryz.func132.trans (congrArg some (by kernel_rfl))⟩
  f22 := ⟨Tryz.f133.name, by decide, Tryz.func133.trans (congrArg some (by kernel_rfl))⟩
  f23 := ⟨Tryz.f134.name, by decide, Tryz.func134.trans (congrArg some (by kernel_rfl))⟩
  f24 := ⟨Tryz.f135.name, by decide, Tryz.func135.trans (congrArg some (by kernel_rfl))⟩
  f25 := ⟨Tryz.f136.name, by decide, Tryz.func136.trans (congrArg some (by kernel_rfl))⟩
  f26 := ⟨Tryz.f137.name, by decide, Tryz.func137.trans (congrArg some (by kernel_rfl))⟩
  f27 := ⟨Tryz.f138.name, by decide, Tryz.func138.trans (congrArg some (by kernel_rfl))⟩
  f28 := ⟨Tryz.f139.name, by decide, Tryz.func139.trans (congrArg some (by kernel_rfl))⟩
  f29 := ⟨Tryz.f140.name, by decide, Tryz.func140.trans (congrArg some (by kernel_rfl))⟩
  f31 := Tryz.func128.trans (congrArg some (by kernel_rfl))
  f32 := Tryz.func129.trans (congrArg some (by kernel_rfl))
  f36 := ⟨Tryz.f156.name, by decide, Tryz.func156.trans (congrArg some (by kernel_rfl))⟩
  f37 := ⟨Tryz.f157.name, by decide, Tryz.func157.trans (congrArg some (by kernel_rfl))⟩
  f38 := ⟨Tryz.f158.name, by decide, Tryz.func158.trans (congrArg some (by kernel_rfl))⟩
  f39 := ⟨Tryz.f159.name, by decide, Tryz.func159.trans (congrArg some (by kernel_rfl))⟩
  f41 := ⟨Tryz.f178.name, by decide, Tryz.func178.trans (congrArg some (by kernel_rfl))⟩
  t0 := Tryz.underlying0
  a0 := Tryz.isAgg0
  z0 := Tryz.sizeOf0
  v0 := Tryz.zeroValue0
  t3 := Tryz.underlying3
  a3 := Tryz.isAgg3
  z3 := Tryz.sizeOf3
  v3 := Tryz.zeroValue3
  t4 := Tryz.underlying4
  a4 := Tryz.isAgg4
  z4 := Tryz.sizeOf4
  v4 := Tryz.zeroValue4
  t5 := Tryz.underlying5
  a5 := Tryz.isAgg5
  z5 := Tryz.sizeOf5
  v5 := Tryz.zeroValue5
  t9 := Tryz.underlying9
  a9 := Tryz.isAgg9
  z9 := Tryz.sizeOf9
  v9 := Tryz.zeroValue9
  t26 := Tryz.underlying91
  a26 := Tryz.isAgg91
  z26 := Tryz.sizeOf91
  v26 := Tryz.zeroValue91
  t27 := Tryz.underlying91
  a27 := Tryz.isAgg91
  z27 := Tryz.sizeOf91
  v27 := Tryz.zeroValue91
  t29 := Tryz.underlying9
  a29 := Tryz.isAgg9
  z29 := Tryz.sizeOf9
  v29 := Tryz.zeroValue9
  t32 := Tryz.underlying130
  a32 := Tryz.isAgg130
  z32 := Tryz.sizeOf130
  v32 := Tryz.zeroValue130
  t35 := Tryz.underlying163
  a35 := Tryz.isAgg163
  z35 := Tryz.sizeOf163
  v35 := Tryz.zeroValue163
  t36 := Tryz.underlying164
  a36 := Tryz.isAgg164
  z36 := Tryz.sizeOf164
  v36 := Tryz.zeroValue164
  t41 := Tryz.underlying132
  a41 := Tryz.isAgg132
  z41 := Tryz.sizeOf132
  v41 := Tryz.zeroValue132
  t44 := Tryz.underlying170
  a44 := Tryz.isAgg170
  z44 := Tryz.sizeOf170
  v44 := Tryz.zeroValue170
  t46 := Tryz.underlying172
  a46 := Tryz.isAgg172
  z46 := Tryz.sizeOf172
  v46 := Tryz.zeroValue172
  t53 := Tryz.underlying181
  a53 := Tryz.isAgg181
  z53 := Tryz.sizeOf181
  v53 := Tryz.zeroValue181
  t57 := Tryz.underlying185
  a57 := Tryz.isAgg185
  z57 := Tryz.sizeOf185
  v57 := Tryz.zeroValue185
  t63 := Tryz.underlying206
  a63 := Tryz.isAgg206
  z63 := Tryz.sizeOf206
  v63 := Tryz.zeroValue206
  t64 := Tryz.underlying35
  a64 := Tryz.isAgg35
  z64 := Tryz.sizeOf35
  v64 := Tryz.zeroValue35 }
end Go.Proofs

/-
  slices.Sorted(maps.Keys(files)): the names, rising.
-/
namespace Go.Proofs.YtlgcjdgcgnlcaaaGreatDoor
open Go.RowKit Go.Maps Go.Sort Go.Shelf
set_option linter.unusedVariables false

theorem sorts12 (m : Nat) : AnyZ.SortsIn Tryz.prog Tryz.lSorted_ren Fence.wide m :=
  ⟨fun blk off cap ss W hH hblk hsz => callsIn_wide.2 (AnyM.slices_Sort_string Tryz.lSort blk off cap ss W hH hblk hsz),
   fun p cap W => callsIn_wide.2 (AnyM.slices_Sort_string_none Tryz.lSort p cap W)⟩
theorem keys12 (mb : Option Nat) (W : World) : CallsIn Fence.wide 5 Tryz.prog 82 #[.map mb] W fun e w' => e = .returned (.func (.func 103) #[] #[.pointer (some ⟨W.heap.size, 0, none⟩)]) ∧ w' = W.alloc (.cells #[.map mb] 52) := AnyZ.keys_in Tryz.lKeys Fence.wide 5 trivial rfl mb W
set_option maxHeartbeats 1000000 in
theorem sorted12 (d s : Nat) (rs : List Rw) (D : Dm) (w : World) (h : DkAt w d s rs D) (hwt : wt rs ≤ 1099511000000) {l : List (ByteArray × List Int)} (hl : FL (play rs) l) :
    CallsIn Fence.wide 5 Tryz.prog 81 #[.func (.func 103) #[] #[.pointer (some ⟨w.heap.size, 0, none⟩)]] (w.alloc (.cells #[.map (some D.m)] 52)) fun e w' => ∃ v, e = .returned v ∧ w'.ownsRow w.heap.size 9 1 v l.length (nmsC l) ∧ Below w.heap.size w w' := by
  obtain ⟨b1, b2⟩ := h.bounds hwt
  obtain ⟨Rd, hR1, _⟩ := reads_ex w
  obtain ⟨L, hown, hLp⟩ := h.fil.owns b1 b2 hR1
  have hbl := hown.lt
  have hlen : Maps.size (DataW.map L) = D.fm.length := by
    have := hLp.length_eq
    rw [List.length_map] at this
    exact this
  have hseq : SeqGives Fence.wide 2 Tryz.prog 103 #[.pointer (some ⟨w.heap.size, 0, none⟩)] encStr (fun ss => ss.Perm (strKeys (DataW.map L))) (Maps.size (DataW.map L)) (w.alloc (.cells #[.map (some D.m)] 52)) :=
    AnyZ.keys_gives (ρ := Tryz.lKeys_ren) { Tryz.lKeys with } Fence.wide _ trivial rfl (by omega) w.heap.size D.m D.fm.length (DataW.map L) _ (by simp) (by simp) (by
      obtain ⟨es, clock, hb, Ft, hs, hD⟩ := hown
      exact ⟨es, clock, (Below.heap_alloc _ _ D.m hbl).trans hb, Ft, hs, hD⟩)
  have hsm : Maps.size (DataW.map L) ≤ 1099511000000 := by rw [hlen]; exact b2
  have cS := AnyZ.sorted_in Tryz.lSorted Fence.wide 5 trivial trivial trivial trivial rfl (by omega) (sorts12 _) (enters_of Tryz.func102 (by kernel_rfl) rfl) 103 #[.pointer (some ⟨w.heap.size, 0, none⟩)] trivial (enters_of Tryz.func103 (by kernel_rfl) rfl) _ _ (by unfold maxLen; omega) (by omega) _ hseq
  change CallsIn _ _ Tryz.prog 81 _ _ _ at cS
  refine cS.mono ?_
  rintro e w' ⟨v, ss, rfl, hS, hrow, _, hb⟩
  have hp : ss.Perm ((D.fm.map (·.1)).map fun x => x.toList) := by
    refine hS.trans ?_
    have h1 : (strKeys (DataW.map L)).Perm ((D.fm.map (ent (play rs))).map fun p => Go.strOf p.1) := hLp.map _
    refine h1.trans (List.Perm.of_eq ?_)
    rw [List.map_map, List.map_map]
    apply List.map_congr_left
    intro x _
    show x.1.data.toList = x.1.toList
    rw [ByteArray.toList_eq]
  have hsort := sort_names hl h.fil.map.one (fun n => by
    constructor
    · intro hn
      obtain ⟨x, hx, rfl⟩ := List.mem_map.1 hn
      rw [h.fil.some hx]
      rfl
    · intro hn
      cases hf : play rs n with
      | none => rw [hf] at hn; cases hn
      | some xs =>
        obtain ⟨u, hu, _⟩ := h.fil.mem hf
        exact List.mem_map.2 ⟨_, hu, rfl⟩) hp
  have hlen2 : ss.length = l.length := by
    have := congrArg List.length hsort
    rw [List.length_mergeSort, List.length_map] at this
    exact this
  refine ⟨v, rfl, ?_, ((Below.refl _ w).alloc (Nat.le_refl _) _).trans (hb.mono (by simp))⟩
  have h2 := ownsRow_base_a hrow (base' := w.heap.size) (by simp)
  rw [hsort, hlen2, List.map_map] at h2
  have h3 : (l.map (encStr ∘ fun x => x.1.toList)) = nmsC l := by
    unfold nmsC
    apply List.map_congr_left
    intro x _
    show encStr x.1.toList = .string x.1
    unfold encStr
    congr 1
    apply bytes_inj
    rw [ByteArray.toList_eq, ByteArray.toList_eq]
  rw [h3] at h2
  exact h2

end Go.Proofs.YtlgcjdgcgnlcaaaGreatDoor

/-
  The program's way through the names, for bodies that leave all names.
-/
namespace Go.Proofs.YtlgcjdgcgnlcaaaGreatDoor
open Go.RowKit Go.Maps Go.Sort Go.Shelf
set_option linter.unusedVariables false

theorem st_at (g n cap i : Nat) (hi : i < n) (W : World) : (Instr.indexAt 91 (.slice (some ⟨g, 0, none⟩) n cap) (.int .i64 (i : Int))).run Tryz.prog W = .ok (.pointer (some ⟨g, i, none⟩)) W := by
  have := vw_at rSt g n cap i hi W
  rw [Nat.mul_one] at this
  exact this
/-- What the program's iterator asks of a round that goes on: all blocks of names are left. -/
structure KS (A C : World) : Prop where
  size : A.heap.size ≤ C.heap.size
  keep : ∀ (k : Nat) (cs : List Value), Blk A k 9 cs → Blk C k 9 cs
theorem KS.refl (A : World) : KS A A := ⟨Nat.le_refl _, fun _ _ h => h⟩
theorem KS.trans {A C D : World} (h : KS A C) (k : KS C D) : KS A D := ⟨Nat.le_trans h.size k.size, fun i cs ho => k.keep i cs (h.keep i cs ho)⟩
theorem KS.book (W : World) (l : Nat) (o o' : Obj) (h : W.heap[l]? = some o) (hc : o.isCells = false) : KS W (W.putObj l o') :=
  ⟨(grownBy_putObj' W l o').size, fun k cs hq => by
    have hne : k ≠ l := fun e => by
      subst e
      rw [hq] at h
      injection h with h
      subst h
      cases hc
    unfold Blk
    rw [World.putObj_heap_other hne]
    exact hq⟩
theorem KS.below {A C : World} (h : Below A.heap.size A C) : KS A C := ⟨h.size, fun k cs hk => hk.on h⟩
theorem KS.but {g : Nat} {A C : World} {t : TypeId} {cs : List Value} (h : But g A C) (hg : Blk A g t cs) (ht : 9 ≠ t) : KS A C := ⟨Nat.le_of_eq h.size.symm, fun k ds hk => hk.but h (hk.apart hg ht)⟩
theorem KS.grown {A C : World} {row : Option Nat} (h : A.grownBy C row) (hr : ∀ g, row = some g → ∃ t cs, Blk A g t cs ∧ 9 ≠ t) : KS A C :=
  ⟨h.size, fun k ds hk => by
    unfold Blk
    rw [h.block k hk.lt (fun e => by
      obtain ⟨t, cs, h1, h2⟩ := hr k e.symm
      exact hk.apart h1 h2 rfl)]
    exact hk⟩
/-- What is handed out behind pre is the next name. -/
def RL (ls : List (ByteArray × List Int)) (pre : List ByteArray) (x : ByteArray) (W : World) : Prop := pre = (ls.take pre.length).map (·.1) ∧ ∃ ys, ls[pre.length]? = some (x, ys)
set_option maxRecDepth 100000 in
set_option maxHeartbeats 2000000 in
theorem list_seq (Bs d s : Nat) (rs : List Rw) (D : Dm) {ls : List (ByteArray × List Int)} (hl : FL (play rs) ls) (hwt : wt rs ≤ 1099511000000) (w : World) (hBs0 : Blk w Bs 26 [.pointer (some ⟨d, 0, none⟩)]) (hd0 : DkAt w d s rs D) :
    SeqR Fence.wide 6 Tryz.prog 80 #[.pointer (some ⟨Bs, 0, none⟩)] (fun x : ByteArray => #[.string x]) (RL ls) (fun _ => KS) (fun ys => ys = ls.map (·.1)) (fun pre => pre <+: ls.map (·.1)) w := by
  intro l J Jx W hbw hJ hJx hY h0
  have h : DkAt W d s rs D := hd0.below hbw
  have hBs : W.cell? ⟨Bs, 0, none⟩ = some (.pointer (some ⟨d, 0, none⟩)) := by rw [(hBs0.on hbw).cell]; rfl
  clear hbw hBs0 hd0 hJx
  obtain ⟨c0, c1, c3, hp⟩ := h.made
  have hlen : ls.length ≤ 1099511000000 := by
    have h1 : ls.length ≤ D.fm.length := by
      have h2 := sub_len (ls.map (·.1)) (D.fm.map (·.1)) (by rw [List.Nodup, List.pairwise_map]; exact hl.srt.imp (fun {a b} hab => blt_ne hab)) (fun n hn => by
        obtain ⟨x, hx, rfl⟩ := List.mem_map.1 hn
        obtain ⟨u, hu, _⟩ := h.fil.mem ((hl.mem x.1 x.2).2 hx)
        exact List.mem_map.2 ⟨_, hu, rfl⟩)
      simpa using h2
    have h3 := (h.bounds hwt).2
    omega
  have hS := sorted12 d s rs D W h hwt hl
  have HS := hide hS
  have HYY := hide hY
  have HJJ := hide hJ
  have H0 := hide h0
  have hfK : Fence.wide.fn 82 := trivial
  have hfS : Fence.wide.fn 81 := trivial
  have hfM : Fence.wide.fn 55 := trivial
  clear h hS hY hJ h0 c3
  generalize hL : ls.length = L at *
  have HL := hide hL
  clear hL
  refine callsIn_of_wp Tryz.func80 rfl trivial ?_ rfl
  simp only [Tryz.ntmps80, List.size_toArray, List.length_cons, List.length_nil, Nat.reduceAdd, Nat.reduceSub, Array.replicate_succ, Array.replicate_zero, List.push_toArray, List.append_toArray, List.nil_append, List.cons_append]
  gi_wp2_with (first
    | (gi_at_call 55; refine (callsIn_wide.2 (made_ok _ _ _ c0 hp)).mono ?_; rintro e W ⟨rfl, rfl⟩)
    | (gi_at_call 82; refine (keys12 _ _).mono ?_; rintro e w' ⟨rfl, rfl⟩)
    | (gi_at_call 81; refine HS.out.mono ?_; rintro e W2 ⟨v, rfl, hrow, hb⟩; obtain ⟨va, vc, hve⟩ := row_slice hrow; subst hve))
  have J2 : J [] W2 := HJJ.out [] W W2 none H0.out ⟨hb.os, hb.tape, hb.output, hb.size, fun i hi _ => hb.block i hi⟩ (fun r e => by cases e)
  have HJ2 := hide J2
  have HROW := hide hrow
  clear J2 hrow hb c0 c1
  gi_loopw [15] (fun c wr => ∃ k : Nat, k ≤ L ∧ c = .int .i64 (k : Int) ∧ Hid (J ((ls.take k).map (·.1)) wr) ∧ Hid (wr.ownsRow W.heap.size 9 1 (.slice va L vc) L (nmsC ls))) (fun c _ => L - (intOf c).toNat)
  case atStart => exact ⟨0, Nat.zero_le _, rfl, HJ2, HROW⟩
  case round =>
    obtain ⟨k, hk, rfl, HJk, HRk⟩ := hrel
    by_cases hlt : k < L
    · have hlti : (k : Int) < (L : Int) := by omega
      obtain ⟨x, hx⟩ : ∃ x, ls[k]? = some x := ⟨_, List.getElem?_eq_getElem (by rw [HL.out]; exact hlt)⟩
      obtain ⟨g, cap, cs, e1, hg, hcs, _⟩ := row_at HRk.out (by omega)
      injection e1 with e1 e2 e3
      clear e2
      subst e1 e3
      have hix := st_at g L vc k hlt
      have hcell : wr.cell? ⟨g, k, none⟩ = some (.string x.1) := by
        rw [hg.cell]
        have h1 : (nmsC ls)[k]? = some (.string x.1) := by unfold nmsC; rw [List.getElem?_map, hx]; rfl
        rw [← hcs, List.getElem?_take, if_pos (by omega)] at h1
        exact h1
      have HET : Hid ((ls.take (k + 1)).map (·.1) = (ls.take k).map (·.1) ++ [x.1]) := hide (by
        obtain ⟨hi, rfl⟩ := List.getElem?_eq_some_iff.1 hx
        rw [List.take_succ_eq_append_getElem hi, List.map_append]
        rfl)
      have HPRE : Hid ((ls.take (k + 1)).map (·.1) <+: ls.map (·.1)) := hide ((List.take_prefix _ _).map _)
      have hpl : ((ls.take k).map (·.1)).length = k := by rw [List.length_map, List.length_take]; have := HL.out; omega
      obtain ⟨fn, tmps, assign, body, hy, hR⟩ := HYY.out _ x.1 wr HJk.out ⟨by rw [hpl], x.2, by rw [hpl]; exact hx⟩
      have hge := row_ge HRk.out (k := g) rfl
      clear hx hg hcs hpl
      gi_wp2
      refine hR.mono ?_
      rintro e W3 (⟨rfl, hJ3, hk3⟩ | ⟨rfl, hJx3⟩)
      · rw [← HET.out] at hJ3
        have HJ3 := hide hJ3
        have HR3 : Hid (W3.ownsRow W.heap.size 9 1 (.slice (some ⟨g, 0, none⟩) L vc) L (nmsC ls)) := hide (row_same HRk.out (fun q hq => by
          obtain ⟨cs', hc'⟩ := row_lies HRk.out hq
          exact (hk3.keep q _ hc').trans hc'.symm))
        clear hJ3 hk3
        gi_wp2
        go_roundw
        case rel => exact ⟨k + 1, by omega, by go_num, HJ3, HR3⟩
        case measure => simp [intOf]; omega
      · rw [← HET.out] at hJx3
        gi_wp2
        refine bodyPost_ret (results_none rfl _ _ _) rfl ?_
        exact ⟨⟨_, rfl⟩, .inr ⟨_, HPRE.out, hJx3⟩⟩
    · have hlti : ¬ (k : Int) < (L : Int) := by omega
      have e1 : k = L := by omega
      have hfin := HJk.out
      rw [e1, List.take_of_length_le (by rw [HL.out]; omega)] at hfin
      have HFIN := hide hfin
      clear hfin
      gi_wp2
      go_end0
      exact ⟨⟨_, rfl⟩, .inl HFIN.out⟩

end Go.Proofs.YtlgcjdgcgnlcaaaGreatDoor

/-
  The files of a level that begin at a digest or behind it: the walk over the disk's names in behind.
-/
namespace Go.Proofs.YtlgcjdgcgnlcaaaGreatDoor
open Go.RowKit Go.Shelf
set_option linter.unusedVariables false
set_option linter.unusedSimpArgs false
set_option maxRecDepth 100000

/-- What stands while names are looked through. -/
structure FI (w W : World) (B b5 b6 b7 b9 : Nat) (fv : Value) (is : List Nat) (pre : List ByteArray) (H L P n : Nat) : Prop where
  c5 : Blk W b5 3 [.int .i64 (H : Int)]
  c6 : Blk W b6 3 [.int .i64 (L : Int)]
  c7 : Blk W b7 3 [.int .i64 (n : Int)]
  c9 : Blk W b9 136 [fv]
  row : W.ownsRow B 43 4 fv is.length (tlC (H : Int) (L : Int) (P : Int) is)
  l9 : w.heap.size ≤ b9 ∧ b9 < B ∧ b9 ≠ b5 ∧ b9 ≠ b6 ∧ b9 ≠ b7
  bel : Below w.heap.size w W
  sz : B ≤ W.heap.size
  nd : is.Nodup
  len : is.length ≤ pre.length
  mem : ∀ i, i ∈ is ↔ (tFB H L i = true ∧ sN H L i ∈ pre ∧ n ≤ i * 2 ^ H)
section
variable {w W W' : World} {B b5 b6 b7 b9 : Nat} {fv : Value} {is : List Nat} {pre : List ByteArray} {H L P n : Nat} {x : ByteArray}
theorem FI.ck (h : FI w W B b5 b6 b7 b9 fv is pre H L P n) (hk : CK W W') (hb : Below w.heap.size w W') : FI w W' B b5 b6 b7 b9 fv is pre H L P n :=
  ⟨h.c5.ck hk, h.c6.ck hk, h.c7.ck hk, h.c9.ck hk, row_same h.row (fun k e => by
    obtain ⟨cs, hc⟩ := row_lies h.row e
    exact (hc.ck hk).trans hc.symm), h.l9, hb, Nat.le_trans h.sz hk.size, h.nd, h.len, h.mem⟩
theorem FI.on (h : FI w W B b5 b6 b7 b9 fv is pre H L P n) (hb : Below W.heap.size W W') : FI w W' B b5 b6 b7 b9 fv is pre H L P n := h.ck (CK.below hb) (on_below h.bel hb)
/-- A name that is none of them. -/
theorem FI.skip (h : FI w W B b5 b6 b7 b9 fv is pre H L P n) (hx : ∀ i, tFB H L i = true → n ≤ i * 2 ^ H → sN H L i ≠ x) : FI w W B b5 b6 b7 b9 fv is (pre ++ [x]) H L P n := by
  refine ⟨h.c5, h.c6, h.c7, h.c9, h.row, h.l9, h.bel, h.sz, h.nd, by have := h.len; simp; omega, fun i => (h.mem i).trans ⟨fun ⟨h1, h2, h3⟩ => ⟨h1, by simp [h2], h3⟩, fun ⟨h1, h2, h3⟩ => ⟨h1, ?_, h3⟩⟩⟩
  rcases List.mem_append.1 h2 with h2 | h2
  · exact h2
  · simp at h2
    exact absurd h2 (hx i h1 h3)
/-- A name that is one of them. -/
theorem FI.push {w3 w4 w5 : World} {g i cap : Nat} (h : FI w W B b5 b6 b7 b9 fv is pre H L P n) (hi1 : tFB H L i = true) (hi2 : n ≤ i * 2 ^ H) (hx : x = sN H L i) (hnew : x ∉ pre) (h3 : Below W.heap.size W w3)
    (hrow : w4.ownsRow B 43 4 (.slice (some ⟨g, 0, none⟩) (is.length + 1) cap) (is ++ [i]).length (tlC (H : Int) (L : Int) (P : Int) (is ++ [i]))) (hgr : w3.grownBy w4 fv.ownBlock)
    (h5 : w5 = w4.setCell ⟨b9, 0, none⟩ (.slice (some ⟨g, 0, none⟩) (is.length + 1) cap)) : FI w w5 B b5 b6 b7 b9 (.slice (some ⟨g, 0, none⟩) (is.length + 1) cap) (is ++ [i]) (pre ++ [x]) H L P n ∧ KS W w5 ∧ KeepsOthers W w5 := by
  have H3 := h.on h3
  have hbut : But b9 w4 w5 := by rw [h5]; exact But.setCell w4 b9 0 _
  have hfB : ∀ k, fv.ownBlock = some k → B ≤ k ∧ ∃ cs, Blk w3 k 43 cs := fun k hk => ⟨row_ge H3.row hk, row_lies H3.row hk⟩
  have hint : ∀ {q : Nat} {u : Value}, Blk w3 q 3 [u] → q ≠ b9 → Blk w5 q 3 [u] := fun {q u} hq hne => (hq.same (hgr.block q hq.lt (fun e => by
    obtain ⟨_, cs, hc⟩ := hfB q e.symm
    exact hc.apart hq (by decide) rfl))).but hbut hne
  have l9 := h.l9
  have hs3 := h3.size
  have c4 : Blk w4 b9 136 [fv] := H3.c9.same (hgr.block b9 H3.c9.lt (fun e => by have := (hfB b9 e.symm).1; omega))
  have hif : i ∉ is := fun hm => hnew (by rw [hx]; exact ((h.mem i).1 hm).2.1)
  refine ⟨⟨hint H3.c5 (fun e => l9.2.2.1 e.symm), hint H3.c6 (fun e => l9.2.2.2.1 e.symm), hint H3.c7 (fun e => l9.2.2.2.2 e.symm), ?_, ?_, l9, ?_, ?_, ?_, ?_, ?_⟩, ?_, ?_⟩
  · rw [h5]; exact c4.set 0 _
  · exact row_same hrow (fun k hk => hbut.block k (by have := row_ge hrow hk; omega))
  · have b4 : Below w.heap.size w w4 := H3.bel.grown hgr H3.bel.size (fun r e => by have := (hfB r e).1; omega)
    exact b4.trans (hbut.below l9.1)
  · rw [hbut.size]
    have := hgr.size
    have := h.sz
    omega
  · rw [List.nodup_append]
    refine ⟨h.nd, by simp, fun a ha b hb => ?_⟩
    simp at hb
    rw [hb]
    exact fun e => hif (by rw [← e]; exact ha)
  · have := h.len; simp; omega
  · intro q
    rw [List.mem_append]
    constructor
    · rintro (hq | hq)
      · obtain ⟨h1, h2, h3⟩ := (h.mem q).1 hq
        exact ⟨h1, by simp [h2], h3⟩
      · simp at hq
        subst hq
        exact ⟨hi1, by rw [hx]; simp, hi2⟩
    · rintro ⟨h1, h2, h3⟩
      rcases List.mem_append.1 h2 with h2 | h2
      · exact .inl ((h.mem q).2 ⟨h1, h2, h3⟩)
      · right
        simp at h2
        rw [hx] at h2
        simp [(sN_inj h1 h2).2.2]
  · refine (KS.below h3).trans ((KS.grown hgr (fun g e => ?_)).trans (KS.but hbut c4 (by decide)))
    obtain ⟨_, cs, hc⟩ := hfB g e
    exact ⟨_, cs, hc, by decide⟩
  · refine (keepsO_below h3).trans ((keepsO_grown hgr (fun g e => ?_)).trans (keepsO_but hbut c4))
    obtain ⟨_, cs, hc⟩ := hfB g e
    exact ⟨_, cs, hc⟩
end
theorem rl_ownS (ls : List (ByteArray × List Int)) (B : Nat) (pre : List ByteArray) (x : ByteArray) : OwnFrom B (fun (_ : Unit) W => RL ls pre x W) := fun _ W W' row h hg hr => h
theorem rl_newS {f : ByteArray → Option (List Int)} {ls : List (ByteArray × List Int)} (hl : FL f ls) {pre : List ByteArray} {x : ByteArray} {W : World} (h : RL ls pre x W) : x ∉ pre := by
  obtain ⟨h1, ys, h2⟩ := h
  intro hx
  rw [h1] at hx
  obtain ⟨y, hy, rfl⟩ := List.mem_map.1 hx
  obtain ⟨i, hi, he⟩ := List.mem_iff_getElem.1 hy
  rw [List.length_take] at hi
  obtain ⟨hp, h2⟩ := List.getElem?_eq_some_iff.1 h2
  have hs := List.pairwise_iff_getElem.1 hl.srt i pre.length (by omega) hp (by omega)
  rw [List.getElem_take] at he
  rw [he, h2] at hs
  exact blt_ne hs rfl
theorem dlist_any (p : Option Addr) (w : World) : Calls Tryz.prog 50 #[.pointer p] w fun e w' => ∃ bx, e = .returned (.func (.func 80) #[] #[.pointer (some ⟨bx, 0, none⟩)]) ∧ Blk w' bx 26 [.pointer p] ∧ Below w.heap.size w w' :=
  (list_any p w).mono (fun r w' ⟨e, hw⟩ => ⟨w.heap.size, e, by rw [hw]; exact Blk.made _ _ _, by rw [hw]; exact (Below.refl _ _).alloc (Nat.le_refl _) _⟩)

end Go.Proofs.YtlgcjdgcgnlcaaaGreatDoor

/-
  The document's disk: Create, Remove, Cut, Rename, Read.
-/
namespace Go.Proofs.YtlgcjdgcgnlcaaaGreatDoor
open Go.RowKit
set_option linter.unusedVariables false

theorem crE_0 {rs : List Rw} {n : ByteArray} (h : crE rs n = 0) : nmB n = true ∧ play rs n = none := by
  unfold crE at h
  by_cases hn : nmB n = true
  · refine ⟨hn, ?_⟩
    rw [if_pos hn] at h
    cases hp : play rs n with
    | none => rfl
    | some x => simp [hp] at h
  · rw [if_neg hn] at h
    omega
theorem fE_0 {rs : List Rw} {n : ByteArray} (h : fE rs n = 0) : nmB n = true ∧ ∃ xs, play rs n = some xs ∧ fl (play rs) n = xs := by
  unfold fE at h
  by_cases hn : nmB n = true
  · refine ⟨hn, ?_⟩
    rw [if_pos hn] at h
    cases hp : play rs n with
    | none => simp [hp] at h
    | some x => exact ⟨x, rfl, by simp [fl, hp]⟩
  · rw [if_neg hn] at h
    omega
section
variable (r s : Nat) (rs : List Rw) (R : Rm) (w : World) (h : RkAt w r s rs R)
include h
set_option maxRecDepth 100000 in
theorem createR_any (n : ByteArray) (hwt : wt rs + 1 ≤ 1099511000000) : Calls Tryz.prog 27 #[.pointer (some ⟨r, 0, none⟩), .string n] w fun e w' => e = .returned (.int .i64 (crE rs n)) ∧ RoP w w' r s R (crS rs n) := by
  have HW := hide hwt
  have hwr := wrong_f r s rs R w h n (by omega)
  have HWR := hide hwr
  have HH := hide h
  clear h hwr hwt
  by_cases h0 : crE rs n = 0
  · obtain ⟨hn, hf⟩ := crE_0 h0
    have HLR : Hid (Lraw s (play rs) (rCr n)) := hide ⟨.inl ⟨n, rfl, hn, hf⟩, fun h2 => by cases h2⟩
    have e1 : crS rs n = rs ++ [rCr n] := by simp [crS, h0]
    rw [e1, h0]
    rw [h0] at HWR
    clear e1 h0 hn hf
    go_enter Tryz.func27, Tryz.ntmps27
    go_wp2_with (first | (go_at_call 62; refine HWR.out.mono ?_; rintro e w2 ⟨rfl, hb2⟩) | (refine step_bR1 rfl rfl ?_))
    refine (doR_any r s rs R (rCr n) (.slice none 0 0) _ (HH.out.below hb2) HLR.out (nobv _) (by have := HW.out; show wt rs + 0 + 1 ≤ _; omega)).mono ?_
    rintro e w3 ⟨rfl, hR⟩
    go_wp2
    go_ret
    exact ⟨rfl, hR.op hb2 (fun k hk => novb k _ hk)⟩
  · have e1 : crS rs n = rs := by simp [crS, h0]
    rw [e1]
    generalize crE rs n = E at HWR h0
    clear e1
    go_enter Tryz.func27, Tryz.ntmps27
    go_wp2_with (first | (go_at_call 62; refine HWR.out.mono ?_; rintro e w2 ⟨rfl, hb2⟩))
    go_ret
    exact ⟨rfl, RoP.below HH.out hb2⟩
set_option maxRecDepth 100000 in
theorem removeR_any (n : ByteArray) (hwt : wt rs + 1 ≤ 1099511000000) : Calls Tryz.prog 43 #[.pointer (some ⟨r, 0, none⟩), .string n] w fun e w' => e = .returned (.int .i64 (fE rs n)) ∧ RoP w w' r s R (rmS rs n) := by
  have HW := hide hwt
  have hwr := wrong_t r s rs R w h n (by omega)
  have HWR := hide hwr
  have HH := hide h
  clear h hwr hwt
  by_cases h0 : fE rs n = 0
  · obtain ⟨hn, xs, hf, _⟩ := fE_0 h0
    have HLR : Hid (Lraw s (play rs) (rRm n)) := hide ⟨.inr (.inr (.inr (.inl ⟨n, xs, rfl, hn, hf⟩))), fun h2 => by cases h2⟩
    have e1 : rmS rs n = rs ++ [rRm n] := by simp [rmS, h0]
    rw [e1, h0]
    rw [h0] at HWR
    clear e1 h0 hn hf
    go_enter Tryz.func43, Tryz.ntmps43
    go_wp2_with (first | (go_at_call 62; refine HWR.out.mono ?_; rintro e w2 ⟨rfl, hb2⟩) | (refine step_bR1 rfl rfl ?_))
    refine (doR_any r s rs R (rRm n) (.slice none 0 0) _ (HH.out.below hb2) HLR.out (nobv _) (by have := HW.out; show wt rs + 0 + 1 ≤ _; omega)).mono ?_
    rintro e w3 ⟨rfl, hR⟩
    go_wp2
    go_ret
    exact ⟨rfl, hR.op hb2 (fun k hk => novb k _ hk)⟩
  · have e1 : rmS rs n = rs := by simp [rmS, h0]
    rw [e1]
    generalize fE rs n = E at HWR h0
    clear e1
    go_enter Tryz.func43, Tryz.ntmps43
    go_wp2_with (first | (go_at_call 62; refine HWR.out.mono ?_; rintro e w2 ⟨rfl, hb2⟩))
    go_ret
    exact ⟨rfl, RoP.below HH.out hb2⟩
set_option maxRecDepth 100000 in
theorem cutR_any (n : ByteArray) (k : Int) (hwt : wt rs + 1 ≤ 1099511000000) : Calls Tryz.prog 44 #[.pointer (some ⟨r, 0, none⟩), .string n, .int .i64 k] w fun e w' => e = .returned (.int .i64 (cuE rs n k)) ∧ RoP w w' r s R (cuS rs n k) := by
  have HW := hide hwt
  have hwr := wrong_t r s rs R w h n (by omega)
  have HWR := hide hwr
  have HH := hide h
  clear h hwr hwt
  by_cases h0 : fE rs n = 0
  · obtain ⟨hn, xs, hf, hfl⟩ := fE_0 h0
    rw [h0] at HWR
    have HALL : Hid (∀ W : World, RkAt W r s rs R → Calls Tryz.prog 37 #[.pointer (some ⟨r, 0, none⟩), .string n] W fun e w' => e = .returned (.tuple #[.string (str xs), .bool true]) ∧ Below W.heap.size W w') := hide (fun W hW => by
      have := all_any r s rs R W hW n (by have := HW.out; omega)
      rw [hfl, hf] at this
      exact this)
    have hsz := str_size xs
    by_cases h1 : k < 0
    · have e1 : cuE rs n k = 2 := by simp [cuE, h0, h1]
      have e2 : cuS rs n k = rs := by simp [cuS, e1]
      rw [e1, e2]
      clear e1 e2 h0 hn hf hfl
      go_enter Tryz.func44, Tryz.ntmps44
      go_wp2_with (first | (go_at_call 62; refine HWR.out.mono ?_; rintro e w2 ⟨rfl, hb2⟩) | (go_at_call 37; refine (HALL.out _ (HH.out.below hb2)).mono ?_; rintro e w3 ⟨rfl, hb3⟩))
      go_ret
      exact ⟨rfl, RoP.below HH.out (hb2.trans (hb3.mono hb2.size))⟩
    · by_cases h2 : (xs.length : Int) < k
      · have e1 : cuE rs n k = 2 := by simp [cuE, h0, hfl, h2]
        have e2 : cuS rs n k = rs := by simp [cuS, e1]
        rw [e1, e2]
        have h2' : ((str xs).size : Int) < k := by rw [hsz]; exact h2
        clear e1 e2 h0 hn hf hfl h2 hsz
        go_enter Tryz.func44, Tryz.ntmps44
        go_wp2_with (first | (go_at_call 62; refine HWR.out.mono ?_; rintro e w2 ⟨rfl, hb2⟩) | (go_at_call 37; refine (HALL.out _ (HH.out.below hb2)).mono ?_; rintro e w3 ⟨rfl, hb3⟩))
        go_ret
        exact ⟨rfl, RoP.below HH.out (hb2.trans (hb3.mono hb2.size))⟩
      · have e1 : cuE rs n k = 0 := by simp only [cuE, h0, hfl, if_true]; rw [if_neg (by omega)]
        have h2' : ¬ ((str xs).size : Int) < k := by rw [hsz]; exact h2
        by_cases h3 : k < (xs.length : Int)
        · have e2 : cuS rs n k = rs ++ [rCu n k] := by
            simp only [cuS, e1, hfl]
            rw [if_pos ⟨trivial, h3⟩]
          rw [e1, e2]
          have HLR : Hid (Lraw s (play rs) (rCu n k)) := hide ⟨.inr (.inr (.inl ⟨n, k, xs, rfl, hn, hf, by omega, h3⟩)), fun h2 => by cases h2⟩
          have h3' : k < ((str xs).size : Int) := by rw [hsz]; exact h3
          clear e1 e2 h0 hn hf hfl h2 h3 hsz
          go_enter Tryz.func44, Tryz.ntmps44
          go_wp2_with (first | (go_at_call 62; refine HWR.out.mono ?_; rintro e w2 ⟨rfl, hb2⟩) | (go_at_call 37; refine (HALL.out _ (HH.out.below hb2)).mono ?_; rintro e w3 ⟨rfl, hb3⟩) | (refine step_bR3 rfl rfl rfl ?_))
          have hb2 := hb2.trans (hb3.mono hb2.size)
          clear hb3
          refine (doR_any r s rs R (rCu n k) (.slice none 0 0) _ (HH.out.below hb2) HLR.out (nobv _) (by have := HW.out; show wt rs + 0 + 1 ≤ _; omega)).mono ?_
          rintro e w3 ⟨rfl, hR⟩
          go_wp2
          go_ret
          exact ⟨rfl, hR.op hb2 (fun k hk => novb k _ hk)⟩
        · have e2 : cuS rs n k = rs := by
            simp only [cuS, hfl]
            rw [if_neg (fun hh => h3 hh.2)]
          rw [e1, e2]
          have h3' : ¬ k < ((str xs).size : Int) := by rw [hsz]; exact h3
          clear e1 e2 h0 hn hf hfl h2 h3 hsz
          go_enter Tryz.func44, Tryz.ntmps44
          go_wp2_with (first | (go_at_call 62; refine HWR.out.mono ?_; rintro e w2 ⟨rfl, hb2⟩) | (go_at_call 37; refine (HALL.out _ (HH.out.below hb2)).mono ?_; rintro e w3 ⟨rfl, hb3⟩))
          go_ret
          exact ⟨rfl, RoP.below HH.out (hb2.trans (hb3.mono hb2.size))⟩
  · have e1 : cuE rs n k = fE rs n := by simp [cuE, h0]
    have e2 : cuS rs n k = rs := by simp [cuS, e1, h0]
    rw [e1, e2]
    generalize fE rs n = E at HWR h0
    clear e1 e2
    go_enter Tryz.func44, Tryz.ntmps44
    go_wp2_with (first | (go_at_call 62; refine HWR.out.mono ?_; rintro e w2 ⟨rfl, hb2⟩))
    go_ret
    exact ⟨rfl, RoP.below HH.out hb2⟩
end

end Go.Proofs.YtlgcjdgcgnlcaaaGreatDoor

/-
  The document's Read.
-/
namespace Go.Proofs.YtlgcjdgcgnlcaaaGreatDoor
open Go.RowKit
set_option linter.unusedVariables false

section
variable (r s : Nat) (rs : List Rw) (R : Rm) (w : World) (h : RkAt w r s rs R)
include h
end

end Go.Proofs.YtlgcjdgcgnlcaaaGreatDoor

/-
  The document's List.
-/
namespace Go.Proofs.YtlgcjdgcgnlcaaaGreatDoor
open Go.RowKit
set_option linter.unusedVariables false

set_option maxRecDepth 100000 in
set_option maxHeartbeats 1000000 in
theorem listR_any (r s : Nat) (rs : List Rw) (R : Rm) (w : World) (h : RkAt w r s rs R) (hwt : wt rs ≤ 1099511000000) :
    Calls Tryz.prog 41 #[.pointer (some ⟨r, 0, none⟩)] w fun e w' => ∃ v, e = .returned v ∧ w'.ownsRow w.heap.size 9 1 v R.l.length (nmsC R.l) ∧ Below w.heap.size w w' := by
  have hfew := h.few2 r s rs R w hwt
  obtain ⟨fa, fc, hfv⟩ := row_slice h.fk.row
  have HFV := hide hfv
  have HH := hide h
  clear h hwt hfv
  generalize hL : R.l.length = L at *
  have HL := hide hL
  clear hL
  go_enter Tryz.func41, Tryz.ntmps41
  go_wp2
  go_loopw [3, 4] (fun o i wr => ∃ k : Nat, i = .int .i64 (k : Int) ∧ k ≤ L ∧ Hid (wr.ownsRow w.heap.size 9 1 o k (nmsC (R.l.take k))) ∧ Hid (Below w.heap.size w wr)) (fun _ i _ => L - (intOf i).toNat)
  case atStart => exact ⟨0, rfl, Nat.zero_le _, hide (World.ownsRow_nil _ _ _ _), hide (Below.refl _ _)⟩
  case round =>
    obtain ⟨k, rfl, hk, HO, HB⟩ := hrel
    have hc1 : wr.cell? ⟨r, 1, none⟩ = some (.slice fa L fc) := by rw [(HH.out.fk.below HB.out).blk.cell, ← HFV.out]; rfl
    by_cases hlt : k < L
    · obtain ⟨x, hx⟩ : ∃ x, R.l[k]? = some x := ⟨_, List.getElem?_eq_getElem (by rw [HL.out]; exact hlt)⟩
      obtain ⟨g, cap, cs, e1, hg, _, _, _, hc0, _⟩ := HH.out.fk.file hx
      rw [HFV.out] at e1
      injection e1 with e1 e2 e3
      clear e2
      subst e1 e3
      have hix := vw_at rFi g L fc k hlt
      have hcell : wr.cell? ⟨g, k * 2, none⟩ = some (.string x.1) := by rw [(hg.on HB.out).cell]; exact hc0
      have hlti : (k : Int) < (L : Int) := by omega
      have HX := hide hx
      clear hg hc0 hx
      go_wp2_with (refine step_oneS rfl rfl ?_)
      intro w1 v1 hv1 hb1
      have B1 := hide (HB.out.trans (hb1.mono HB.out.size))
      have O1 := hide (row_on HO.out hb1)
      have V1 := hide hv1
      clear hb1 hv1 hc1 hcell
      go_wp2_with (refine step_appV rSt rfl rfl rfl O1.out V1.out (fun x hx => by simp at hx; subst hx; rfl) (by omega) B1.out.size ?_)
      intro v2 w2 hv2 hgr2 hat2
      have B2 := hide (B1.out.trans (grown_below hgr2 (fun k hk => row_ge O1.out hk) B1.out.size))
      have O2 : Hid (w2.ownsRow w.heap.size 9 1 v2 (k + 1) (nmsC (R.l.take (k + 1)))) := hide (by rw [nmsC_succ R.l HX.out]; exact hv2)
      clear hv2 hgr2 hat2 B1 O1 V1 HO HB
      go_wp2
      go_roundw
      case rel => exact ⟨k + 1, by go_num, by omega, O2, B2⟩
      case measure => simp [intOf]; omega
    · have hlti : ¬ (k : Int) < (L : Int) := by omega
      have e1 : k = L := by omega
      go_wp2
      go_ret
      refine ⟨_, rfl, ?_, HB.out⟩
      have := HO.out
      rw [e1, List.take_of_length_le (by rw [HL.out]; omega)] at this
      exact this

end Go.Proofs.YtlgcjdgcgnlcaaaGreatDoor

/-
  The files of a level that begin at a digest or behind it: behind.
-/
namespace Go.Proofs.YtlgcjdgcgnlcaaaGreatDoor
open Go.RowKit Go.Shelf
set_option linter.unusedVariables false
set_option linter.unusedSimpArgs false
set_option maxRecDepth 100000

theorem bA_of (x : ByteArray) : ∃ s : List UInt8, x = bA s := ⟨x.data.toList, by apply ByteArray.ext; simp [bA]⟩
theorem FI.new (w : World) (H L P n : Nat) : ∃ W, W = ((((w.alloc (.cells #[.int .i64 (H : Int)] 3)).alloc (.cells #[.int .i64 (L : Int)] 3)).alloc (.cells #[.int .i64 (n : Int)] 3)).alloc (.cells #[.slice none 0 0] 136)) ∧
    FI w W (w.heap.size + 1 + 1 + 1 + 1) w.heap.size (w.heap.size + 1) (w.heap.size + 1 + 1) (w.heap.size + 1 + 1 + 1) (.slice none 0 0) [] [] H L P n := by
  refine ⟨_, rfl, ?_⟩
  have b1 : Below w.heap.size w (w.alloc (.cells #[.int .i64 (H : Int)] 3)) := (Below.refl _ _).alloc (Nat.le_refl _) _
  have B1 : Blk (w.alloc (.cells #[.int .i64 (H : Int)] 3)) w.heap.size 3 [.int .i64 (H : Int)] := Blk.made _ _ _
  have z1 : (w.alloc (.cells #[.int .i64 (H : Int)] 3)).heap.size = w.heap.size + 1 := World.size_alloc _ _
  generalize w.alloc (.cells #[.int .i64 (H : Int)] 3) = W1 at *
  have b2 : Below W1.heap.size W1 (W1.alloc (.cells #[.int .i64 (L : Int)] 3)) := (Below.refl _ _).alloc (Nat.le_refl _) _
  have B2 : Blk (W1.alloc (.cells #[.int .i64 (L : Int)] 3)) W1.heap.size 3 [.int .i64 (L : Int)] := Blk.made _ _ _
  have z2 : (W1.alloc (.cells #[.int .i64 (L : Int)] 3)).heap.size = W1.heap.size + 1 := World.size_alloc _ _
  generalize W1.alloc (.cells #[.int .i64 (L : Int)] 3) = W2 at *
  have b3 : Below W2.heap.size W2 (W2.alloc (.cells #[.int .i64 (n : Int)] 3)) := (Below.refl _ _).alloc (Nat.le_refl _) _
  have B3 : Blk (W2.alloc (.cells #[.int .i64 (n : Int)] 3)) W2.heap.size 3 [.int .i64 (n : Int)] := Blk.made _ _ _
  have z3 : (W2.alloc (.cells #[.int .i64 (n : Int)] 3)).heap.size = W2.heap.size + 1 := World.size_alloc _ _
  generalize W2.alloc (.cells #[.int .i64 (n : Int)] 3) = W3 at *
  have b4 : Below W3.heap.size W3 (W3.alloc (.cells #[.slice none 0 0] 136)) := (Below.refl _ _).alloc (Nat.le_refl _) _
  have B4 : Blk (W3.alloc (.cells #[.slice none 0 0] 136)) W3.heap.size 136 [.slice none 0 0] := Blk.made _ _ _
  have z4 : (W3.alloc (.cells #[.slice none 0 0] 136)).heap.size = W3.heap.size + 1 := World.size_alloc _ _
  generalize W3.alloc (.cells #[.slice none 0 0] 136) = W4 at *
  rw [z1] at B2 z2
  rw [z2] at B3 z3
  rw [z3] at B4 z4
  exact ⟨((B1.on (by rw [z1] at b2; rw [z1]; exact b2)).on (by rw [z2] at b3; rw [z2]; exact b3)).on (by rw [z3] at b4; rw [z3]; exact b4), (B2.on (by rw [z2] at b3; rw [z2]; exact b3)).on (by rw [z3] at b4; rw [z3]; exact b4), B3.on (by rw [z3] at b4; rw [z3]; exact b4), B4, World.ownsRow_nil _ _ _ _, ⟨by omega, by omega, by omega, by omega, by omega⟩,
    on_below (on_below (on_below b1 (by rw [z1] at b2; rw [z1]; exact b2)) (by rw [z2] at b3; rw [z2]; exact b3)) (by rw [z3] at b4; rw [z3]; exact b4), by rw [z4]; exact Nat.le_refl _, List.nodup_nil, Nat.le_refl _, fun i => by simp⟩
theorem eqTl (w : World) (a b c d a' b' c' d' : Int) : (Op.equalIn 10000 43 (.agg (c4 a b c d).toArray) (.agg (c4 a' b' c' d').toArray)).run Tryz.prog w = .ok (a == a' && b == b' && c == c' && d == d') w := by
  unfold c4
  by_cases h1 : a = a' <;> by_cases h2 : b = b' <;> by_cases h3 : c = c' <;> by_cases h4 : d = d' <;> go_simp
theorem guardTl : Tryz.prog.eqGuardType Tryz.prog.depth 43 = false := by kernel_rfl
theorem run_eqTl {dst : Option Tmp} {ty : TypeId} {pos : String} {aft : Array Edge} {gd : Option (Nat × Bool)} {act : Act} {w : World} {t' : TypeId} {x y : Operand} {a b c d a' b' c' d' : Int} (q : Bool) (hq : (a == a' && b == b' && c == c' && d == d') = q) (hx : act.eval x = .agg (c4 a b c d).toArray) (hy : act.eval y = .agg (c4 a' b' c' d').toArray) :
    (execOp act.eval ⟨dst, .binOp .eql 43 x y t', ty, pos, aft, gd⟩).run Tryz.prog w = .ok (.value (.bool q)) w := by
  have e2 := eqTl w a b c d a' b' c' d'
  rw [hq] at e2
  simp [execOp, hx, hy, run_eqGuard_agg (P := Tryz.prog) w .eql 43 x y _ _ guardTl, run_eql_struct, e2, Result.andThen]
theorem roT : Ro 136 43 4 32 (.agg (c4 0 0 0 0).toArray) := ⟨by kernel_rfl, by kernel_rfl, by kernel_rfl, rfl, by decide, by decide, fun w => by kernel_rfl⟩
theorem build_T (h l i n : Int) (w : World) :
    (Instr.buildSlice 136 1 #[(0, .agg (c4 h l i n).toArray)]).run Tryz.prog w = .ok (.slice (some ⟨w.heap.size, 0, none⟩) 1 1) (w.alloc (.cells (c4 h l i n).toArray 43)) := by
  obtain ⟨i0, hi, hz0, hz1, hz2⟩ := info_parts roT.info
  refine run_buildSlice w 136 43 1 _ _ i0 _ roT.und hi hz0 (by rw [hz1]; decide) (by rw [hz1]; decide) ?_
  rw [hz1]
  have e0 : ((Array.range (1 * 4)).map ((Value.agg (c4 0 0 0 0).toArray).cells[· % (Value.agg (c4 0 0 0 0).toArray).cells.size]!)) = (c4 0 0 0 0).toArray := by kernel_rfl
  rw [e0]
  show Instr.fill _ _ [(0, Value.agg (c4 h l i n).toArray)] = _
  rw [fill_cons (place := fun i => some (i * 4, 4)) (off := 0) (size := 4) (vs := c4 h l i n) rfl rfl rfl (by decide), fill_nil]
  rfl
theorem shl_P (H P I : Nat) (hH : isH H) (hP : 2 ^ H = P) (hb : I * P ≤ 281474976710656) (w : World) : (binOp .shl 3 (.int .i64 (I : Int)) (.int .i64 (H : Int))).run Tryz.prog w = .ok (.int .i64 ((I * P : Nat) : Int)) w := by
  have h1 := hH.2
  have h2 : ((I : Int) * 2 ^ H) = ((I * P : Nat) : Int) := by rw [← hP, Int.natCast_mul, Int.natCast_pow]; rfl
  have h3 : wrap64 ((I * P : Nat) : Int) = ((I * P : Nat) : Int) := w64 _ (by omega) (by omega)
  go_simp
  rw [← Int.natCast_mul]
  exact wrap_in _ (by omega) (by omega)
section
variable {F : Fence} {n : Nat} {dst : Option Tmp} {ty : TypeId} {pos : String} {aft : Array Edge} {gd : Option (Nat × Bool)} {ops : Array Oper} {rest : List Oper} {a : Act} {w : World} {Q : Exit → Act → World → Prop}
set_option maxRecDepth 100000 in
theorem istep_oneT (hF : WideF F) {x : Operand} {h' l' i' n' : Int} (hw : Region.wanted ⟨dst, .buildSlice 136 1 #[(0, x)], ty, pos, aft, gd⟩ (yielded ops a.tmps) = true) (hx : a.eval x = .agg (c4 h' l' i' n').toArray)
    (h : ∀ w1 g, Blk w1 g 43 (c4 h' l' i' n') → w.heap.size ≤ g → Below w.heap.size w w1 → wpListIn F n Tryz.prog ops Q rest (a.put dst (.slice (some ⟨g, 0, none⟩) 1 1)) w1) :
    wpListIn F n Tryz.prog ops Q (⟨dst, .buildSlice 136 1 #[(0, x)], ty, pos, aft, gd⟩ :: rest) a w :=
  istep hF (fun c => by simp) hw fun K hK => by
    refine wp_runV (.slice (some ⟨w.heap.size, 0, none⟩) 1 1) (w.alloc (.cells (c4 h' l' i' n').toArray 43)) ?_ (hK _ _ (h _ _ (Blk.made _ _ _) (Nat.le_refl _) ((Below.refl _ _).alloc (Nat.le_refl _) _)))
    unfold execOp
    simp only [List.map_toArray, List.map_cons, List.map_nil, hx]
    simp only [Sem.run_bind, build_T, Result.andThen_ok, Sem.run_pure]
set_option maxRecDepth 100000 in
theorem istep_appT (hF : WideF F) {s x : Operand} {B : Nat} {v u : Value} {k m : Nat} {xs ys : List Value} (hw : Region.wanted ⟨dst, .call { callee := .builtin .append, args := #[s, x], argTypes := #[136, 136] }, ty, pos, aft, gd⟩ (yielded ops a.tmps) = true)
    (hs : a.eval s = v) (hx : a.eval x = u) (hown : w.ownsRow B 43 4 v k xs) (hu : Vw w 43 4 u m ys) (h1 : ∀ x ∈ ys, x.oneCell' = true) (hlen : k + m ≤ 1099511627776) (hB : B ≤ w.heap.size)
    (h : ∀ v' w', w'.ownsRow B 43 4 v' (k + m) (xs ++ ys) → w.grownBy w' v.ownBlock → wpListIn F n Tryz.prog ops Q rest (a.put dst v') w') :
    wpListIn F n Tryz.prog ops Q (⟨dst, .call { callee := .builtin .append, args := #[s, x], argTypes := #[136, 136] }, ty, pos, aft, gd⟩ :: rest) a w :=
  istep hF (fun c => by simp) hw fun K hK => wp_appV roT hs hx hown hu h1 hlen hB fun v' w' h1 h2 _ => hK _ _ (h v' w' h1 h2)
end
theorem vw_one {w : World} {g : Nat} {h' l' i' n' : Int} (hb : Blk w g 43 (c4 h' l' i' n')) : Vw w 43 4 (.slice (some ⟨g, 0, none⟩) 1 1) 1 (c4 h' l' i' n') :=
  ⟨rfl, some ⟨g, 0, none⟩, 1, rfl, Nat.le_refl _, fun _ => ⟨g, 0, c4 h' l' i' n', rfl, hb, rfl⟩⟩
theorem row_app {w : World} {B H L P I : Nat} {v : Value} {is : List Nat} (h : w.ownsRow B 43 4 v (is.length + 1) (tlC (H : Int) (L : Int) (P : Int) is ++ c4 (H : Int) (L : Int) (I : Int) (P : Int))) : w.ownsRow B 43 4 v (is ++ [I]).length (tlC (H : Int) (L : Int) (P : Int) (is ++ [I])) := by
  rw [List.length_append, tlC_app]
  simpa [tlC, enT] using h
theorem prr_of {H L i P : Nat} {ss : List UInt8} (hP : 2 ^ H = P) (ht : tFB H L i = true) (he : sN H L i = bA ss) : PrR ss (H : Int) (L : Int) (i : Int) (P : Int) 0 := by
  have h1 := tFB_ok ht
  have h2 : sP H L i = ss := bA_inj he
  rw [sP_ok ht] at h2
  rw [hP] at h1 h2
  exact .inl ⟨rfl, h1, h2⟩
theorem rowQ_mono {w : World} {B B' : Nat} {e : TypeId} {q n : Nat} {v : Value} {xs : List Value} (h : w.ownsRow B e q v n xs) (hb : B' ≤ B) : w.ownsRow B' e q v n xs := by
  obtain ⟨h1, h2⟩ := h
  refine ⟨h1, ?_⟩
  rcases h2 with h2 | ⟨g, cap, cur, rfl, hg, h3⟩
  · exact .inl h2
  · exact .inr ⟨g, cap, cur, rfl, Nat.le_trans hb hg, h3⟩
theorem sort_tl (H L P : Int) (B : Nat) (fv : Value) (is : List Nat) (w : World) (hrow : w.ownsRow B 43 4 fv is.length (tlC H L P is)) (hlen : is.length ≤ 1099511627776) :
    Calls Tryz.prog 72 #[fv, .func (.func 73) #[] #[]] w fun e w' => e = .returned (.tuple #[]) ∧
      ∃ js : List Nat, js.Perm is ∧ (js.Pairwise fun a b => ¬ a < b) ∧ w'.ownsRow B 43 4 fv js.length (tlC H L P js) ∧ w.grownBy w' fv.ownBlock := by
  by_cases h0 : 0 < is.length
  · obtain ⟨g, cap, cs, rfl, _⟩ := row_at hrow h0
    refine (sort_some H L P B g cap is w hrow h0 hlen).mono ?_
    rintro e w' ⟨rfl, js, h1, h2, h3, h4⟩
    exact ⟨rfl, js, h1, h2, by rw [h1.length_eq]; rw [h1.length_eq] at h3; exact h3, h4⟩
  · obtain ⟨a, c, rfl⟩ := row_slice hrow
    have e0 : is = [] := List.eq_nil_of_length_eq_zero (by omega)
    subst e0
    refine (AnyF.slices_SortFunc_none Tryz.lSortF a c (.func (.func 73) #[] #[]) w).mono ?_
    rintro e w' ⟨rfl, rfl⟩
    exact ⟨rfl, [], List.Perm.refl _, List.Pairwise.nil, hrow, World.grownBy.refl _ _⟩
theorem tlC_at (H L P : Int) : ∀ (js : List Nat) (k q : Nat), js[k]? = some q → ((tlC H L P js).drop (k * 4)).take 4 = enT H L P q
  | [], k, q, h => by simp at h
  | i :: t, 0, q, h => by
    simp at h
    subst h
    rw [tlC_cons]
    exact List.take_left' rfl
  | i :: t, k + 1, q, h => by
    rw [tlC_cons, show (k + 1) * 4 = 4 + k * 4 by omega, ← List.drop_drop]
    show ((tlC H L P t).drop (k * 4)).take 4 = _
    exact tlC_at H L P t k q (by simpa using h)
theorem tlC_in {H L P : Int} {js : List Nat} {cs : List Value} {m k q : Nat} (hm : js.length = m) (hcs : cs.take (m * 4) = tlC H L P js) (hq : js[k]? = some q) : (cs.drop (k * 4)).take 4 = enT H L P q := by
  have hk := (List.getElem?_eq_some_iff.1 hq).1
  rw [← tlC_at H L P js k q hq, ← hcs, List.drop_take, List.take_take, Nat.min_eq_left (by omega)]
theorem takeQ {α : Type} {js : List α} {k : Nat} {q : α} (h : js[k]? = some q) : js.take (k + 1) = js.take k ++ [q] := by
  rw [List.take_add_one, h]
  rfl
theorem tpath_any (H L i P : Nat) (hP : 2 ^ H = P) (ht : tFB H L i = true) (w : World) (hw : PT w) :
    Calls Tryz.prog 66 #[.agg (c4 (H : Int) (L : Int) (i : Int) (P : Int)).toArray] w fun r w' => r = .returned (.tuple #[.string (sN H L i), .int .i64 0]) ∧ Below w.heap.size w w' := by
  have h1 := tFB_ok ht
  obtain ⟨_, _, hL, hI, _⟩ := tFB_bd ht
  rw [hP] at h1 hI
  have hi : i ≤ 281474976710656 := by
    have := (tFB_is ht).1.pow
    rw [hP] at this
    have h2 : i * 1 ≤ (i + 1) * P := Nat.mul_le_mul (by omega) (by omega)
    omega
  obtain ⟨p, e, hp, hc⟩ := path_any (H : Int) (L : Int) (i : Int) (P : Int) (by omega) (by omega)
  rcases hp with ⟨rfl, _, rfl⟩ | ⟨_, h2, _⟩
  · refine (hc w hw).mono ?_
    rintro r w' ⟨rfl, hb⟩
    exact ⟨by unfold sN; rw [sP_ok ht, hP], hb⟩
  · exact absurd h1 h2
set_option maxHeartbeats 4000000 in
theorem behind_any (d s : Nat) (rs : List Rw) (D : Dm) (ls : List (ByteArray × List Int)) (H L n : Nat) (w : World) (hd : DkAt w d s rs D) (hl : FL (play rs) ls) (hv : tFB H L 0 = true) (hn : n ≤ 1099511627776) (he : EV w) (hwt : wt rs ≤ 1099511000000) (hls : ls.length ≤ 1000000) :
    Calls Tryz.prog 38 #[.pointer (some ⟨d, 0, none⟩), .int .i64 (H : Int), .int .i64 (L : Int), .int .i64 (n : Int)] w fun e w' => ∃ v js, e = .returned v ∧ TrI (play rs) H L n js ∧ w'.ownsRow w.heap.size 9 1 v js.length (js.map fun i => .string (sN H L i)) ∧ Below w.heap.size w w' ∧ js.length ≤ 1000000 := by
  have hh := (tFB_is hv).1
  have hLb := (tFB_bd hv).2.2.1
  obtain ⟨P, HP⟩ : ∃ P, Hid (2 ^ H = P) := ⟨_, hide rfl⟩
  have hP := hh.pow
  rw [HP.out] at hP
  have HD := hide hd
  have HL := hide hl
  have HE := hide he
  have HW := hide hwt
  have HLS := hide hls
  have HFU := hide (fun (i : Int) W => fullT_any H P (L : Int) i W hh HP.out)
  have HHH := hide hh
  have hH8 : (H : Int) ≤ 8 := by have := hh.2; omega
  clear hd hl he hwt hls
  refine (callsIn_wide (n := 7)).1 ?_
  refine callsIn_of_wp_marks Tryz.func38 rfl trivial ?_ rfl
  refine wpIn_wide.2 ?_
  simp only [Tryz.ntmps38, List.size_toArray, List.length_cons, List.length_nil, Nat.reduceAdd, Nat.reduceSub, Array.replicate_succ, Array.replicate_zero, List.push_toArray, List.append_toArray, List.nil_append, List.cons_append]
  go_wp2_with fail
  obtain ⟨W4, hW4, F4⟩ := FI.new w H L P n
  rw [← hW4]
  clear hW4
  have G4 := hide F4
  clear F4
  revert G4
  obtain ⟨B, hB⟩ : ∃ B, w.heap.size + 1 + 1 + 1 + 1 = B := ⟨_, rfl⟩
  rw [hB]
  have hwB : w.heap.size ≤ B := by omega
  obtain ⟨b5, hb5⟩ : ∃ b, w.heap.size = b := ⟨_, rfl⟩
  obtain ⟨b6, hb6⟩ : ∃ b, w.heap.size + 1 = b := ⟨_, rfl⟩
  obtain ⟨b7, hb7⟩ : ∃ b, w.heap.size + 1 + 1 = b := ⟨_, rfl⟩
  obtain ⟨b9, hb9⟩ : ∃ b, w.heap.size + 1 + 1 + 1 = b := ⟨_, rfl⟩
  rw [hb9, hb7, hb6, hb5]
  clear hB hb6 hb7 hb9
  intro G4
  refine (dlist_any _ _).mono ?_
  rintro r w5 ⟨bx, rfl, BX, hbx⟩
  have G5 := hide (G4.out.on hbx)
  clear hbx G4
  have HSQ := hide (list_seq bx d s rs D HL.out HW.out w5 BX (HD.out.below G5.out.bel))
  clear BX
  go_wp2_with fail
  refine (wpIn_wide (n := 7)).1 ?_
  refine rangeR rfl (by decide) (gf := 80) (lb := #[.pointer (some ⟨bx, 0, none⟩)]) rfl trivial (enters_of Tryz.func80 (by kernel_rfl) rfl)
    HSQ.out KS.trans (fun x W l o o' hl h hc => KS.book W l o o' h hc) (fun _ => rfl) (fun pre x => rl_ownS _ _ pre x)
    (fun pre W => ∃ fv is, FI w W B b5 b6 b7 b9 fv is pre H L P n) (fun _ _ _ => False)
    (fun _ A C row h hg hr => by
      obtain ⟨fv, is, hf⟩ := h
      exact ⟨fv, is, hf.ck (CK.of_grown hg (fun r e => (hr r e).2)) (hf.bel.grown hg hf.bel.size (fun r e => by have h1 := (hr r e).1; have h2 := G5.out.bel.size; omega))⟩) (fun c _ A C row h hg hr => h) ⟨_, _, G5.out⟩ ?act ?assign ?body ?done ?stop
  case assign =>
    rintro l x W K hK
    have hsem := Oper.semAt_some
    gi_wp2
    exact hK
  case stop =>
    rintro D c pre W hD hSp hF2 hK2
    exact hF2.elim
  case body =>
    rintro l pre x W ⟨fv, is, hf⟩ hR
    have hsem := Oper.semAt_some
    have HF := hide hf
    have HNEW := hide (rl_newS HL.out hR)
    have hxs : x.size ≤ 128 := by
      obtain ⟨_, ys, h2⟩ := hR
      have hx1 : nmB x = true := by
        cases hb : nmB x with
        | true => rfl
        | false =>
          have h3 := (HL.out.mem x ys).2 (List.mem_of_getElem? h2)
          rw [Nmd.play HD.out.valS x hb] at h3
          cases h3
      simp [nmB] at hx1
      omega
    have HFEW : Hid (is.length ≤ 1000000) := hide (by
      have h1 := hf.len
      have h5 := HLS.out
      obtain ⟨_, ys, h2⟩ := hR
      have := (List.getElem?_eq_some_iff.1 h2).1
      omega)
    obtain ⟨ss, hss⟩ := bA_of x
    subst hss
    rw [bA_size] at hxs
    obtain ⟨h', l', i', n', e, hpr, hcall⟩ := parse_any ss (by omega)
    have HCALL := hide (hcall W (HE.out.below hf.bel))
    clear hf hR hcall
    gi_wp2_with fail
    refine ⟨trivial, (calls_round (WideF.round l) HCALL.out).mono ?_⟩
    rintro _ V ⟨rfl, hbV⟩
    have HFV := hide (HF.out.on hbV)
    have HOV := hide (keepsO_below hbV)
    have HSV := hide (KS.below hbV)
    clear hbV HCALL
    gi_wp2_with (refine istep_alloc (.round l) zT rfl ?_)
    intro V1 g11 hg11 hle11 hb11
    gi_wp2_with (refine istep_storeA (.round l) wT rfl rfl rfl hg11 rfl (One.c4 _ _ _ _) rfl ?_)
    intro V2 hg2 hbut2
    have hbV2 : Below V.heap.size V V2 := hb11.trans (hbut2.below hle11)
    have HF2 := hide (HFV.out.on hbV2)
    have HO2 := hide (HOV.out.trans (keepsO_below hbV2))
    have HS2 := hide (HSV.out.trans (KS.below hbV2))
    have HG2 := hide hg2
    clear hg11 hle11 hb11 hg2 hbut2 hbV2 HFV HOV HSV HF
    have HI4 : Hid ((Tryz.prog.info? 43).map (·.size) = some (c4 h' l' i' n').length) := hide wT.size
    have HRG : Hid (∀ v : World, Below V2.heap.size V2 v → v.rangeAt g11 0 (c4 h' l' i' n')) := hide (fun v hv => (HG2.out.on hv).range 0 _ (by simp))
    rcases hpr with ⟨rfl, htok, hpath⟩ | ⟨rfl, rfl, rfl, rfl, rfl, hno⟩
    rotate_left
    · have hskip : ∀ i, tFB H L i = true → n ≤ i * 2 ^ H → sN H L i ≠ bA ss := fun i ht _ hs => by
        rcases prr_of HP.out ht hs with ⟨_, h1, h2⟩ | ⟨h1, _⟩
        · exact hno ⟨_, _, _, _, h1, h2⟩
        · exact absurd h1 (by decide)
      clear hno
      gi_wp2_with fail
      refine wpIn_region_held (S := fun v => Below V2.heap.size V2 v) (WideF.round l) (by kernel_rfl) (by kernel_rfl) (Below.refl V2.heap.size V2).drew (fun hHeld => ?_)
      refine takeH 0 26 (.int .i64 100) hHeld rfl rfl (by kernel_rfl) (by kernel_rfl) (by kernel_rfl) (fun _ _ _ h => h) (Or.inl ⟨by rfl, fun w _ => by go_simp⟩) ?_
      simp only [Act.put, List.setIfInBounds_toArray, List.set_cons_zero, List.set_cons_succ]
      refine takeH 1 27 (.bool false) hHeld rfl rfl (by kernel_rfl) (by kernel_rfl) (by kernel_rfl) (fun _ _ _ h => h) (Or.inl ⟨by rfl, fun w _ => by go_simp⟩) ?_
      simp only [Act.put, List.setIfInBounds_toArray, List.set_cons_zero, List.set_cons_succ]
      refine takeH 2 28 (.bool false) hHeld rfl rfl (by kernel_rfl) (by kernel_rfl) (by kernel_rfl) (fun _ _ _ h => h) (Or.inl ⟨by rfl, fun w _ => by go_simp⟩) ?_
      simp only [Act.put, List.setIfInBounds_toArray, List.set_cons_zero, List.set_cons_succ]
      refine takeH 3 29 undef hHeld rfl rfl (by kernel_rfl) (by kernel_rfl) (by kernel_rfl) (fun _ _ _ h => h) (Or.inr ⟨by rfl, rfl⟩) ?_
      simp only [Act.put, List.setIfInBounds_toArray, List.set_cons_zero, List.set_cons_succ]
      refine takeH 4 30 undef hHeld rfl rfl (by kernel_rfl) (by kernel_rfl) (by kernel_rfl) (fun _ _ _ h => h) (Or.inr ⟨by rfl, rfl⟩) ?_
      simp only [Act.put, List.setIfInBounds_toArray, List.set_cons_zero, List.set_cons_succ]
      refine takeH 5 31 undef hHeld rfl rfl (by kernel_rfl) (by kernel_rfl) (by kernel_rfl) (fun _ _ _ h => h) (Or.inr ⟨by rfl, rfl⟩) ?_
      simp only [Act.put, List.setIfInBounds_toArray, List.set_cons_zero, List.set_cons_succ]
      refine takeH 6 32 undef hHeld rfl rfl (by kernel_rfl) (by kernel_rfl) (by kernel_rfl) (fun _ _ _ h => h) (Or.inr ⟨by rfl, rfl⟩) ?_
      simp only [Act.put, List.setIfInBounds_toArray, List.set_cons_zero, List.set_cons_succ]
      refine takeH 7 33 undef hHeld rfl rfl (by kernel_rfl) (by kernel_rfl) (by kernel_rfl) (fun _ _ _ h => h) (Or.inr ⟨by rfl, rfl⟩) ?_
      simp only [Act.put, List.setIfInBounds_toArray, List.set_cons_zero, List.set_cons_succ]
      refine takeH 8 34 undef hHeld rfl rfl (by kernel_rfl) (by kernel_rfl) (by kernel_rfl) (fun _ _ _ h => h) (Or.inr ⟨by rfl, rfl⟩) ?_
      simp only [Act.put, List.setIfInBounds_toArray, List.set_cons_zero, List.set_cons_succ]
      refine takeH 9 35 undef hHeld rfl rfl (by kernel_rfl) (by kernel_rfl) (by kernel_rfl) (fun _ _ _ h => h) (Or.inr ⟨by rfl, rfl⟩) ?_
      simp only [Act.put, List.setIfInBounds_toArray, List.set_cons_zero, List.set_cons_succ]
      refine takeH 10 36 (.bool false) hHeld rfl rfl (by kernel_rfl) (by kernel_rfl) (by kernel_rfl) (fun _ _ _ h => h) (Or.inl ⟨by rfl, fun w _ => by go_simp⟩) ?_
      simp only [Act.put, List.setIfInBounds_toArray, List.set_cons_zero, List.set_cons_succ]
      refine takeH 11 37 (.bool false) hHeld rfl rfl (by kernel_rfl) (by kernel_rfl) (by kernel_rfl) (fun _ _ _ h => h) (Or.inl ⟨by rfl, fun w _ => by go_simp⟩) ?_
      simp only [Act.put, List.setIfInBounds_toArray, List.set_cons_zero, List.set_cons_succ]
      refine takeH 12 38 undef hHeld rfl rfl (by kernel_rfl) (by kernel_rfl) (by kernel_rfl) (fun _ _ _ h => h) (Or.inr ⟨by rfl, rfl⟩) ?_
      simp only [Act.put, List.setIfInBounds_toArray, List.set_cons_zero, List.set_cons_succ]
      refine takeH 13 39 undef hHeld rfl rfl (by kernel_rfl) (by kernel_rfl) (by kernel_rfl) (fun _ _ _ h => h) (Or.inr ⟨by rfl, rfl⟩) ?_
      simp only [Act.put, List.setIfInBounds_toArray, List.set_cons_zero, List.set_cons_succ]
      refine takeH 14 40 undef hHeld rfl rfl (by kernel_rfl) (by kernel_rfl) (by kernel_rfl) (fun _ _ _ h => h) (Or.inr ⟨by rfl, rfl⟩) ?_
      simp only [Act.put, List.setIfInBounds_toArray, List.set_cons_zero, List.set_cons_succ]
      refine takeH 15 41 undef hHeld rfl rfl (by kernel_rfl) (by kernel_rfl) (by kernel_rfl) (fun _ _ _ h => h) (Or.inr ⟨by rfl, rfl⟩) ?_
      simp only [Act.put, List.setIfInBounds_toArray, List.set_cons_zero, List.set_cons_succ]
      refine takeH 16 42 undef hHeld rfl rfl (by kernel_rfl) (by kernel_rfl) (by kernel_rfl) (fun _ _ _ h => h) (Or.inr ⟨by rfl, rfl⟩) ?_
      simp only [Act.put, List.setIfInBounds_toArray, List.set_cons_zero, List.set_cons_succ]
      refine takeH 17 43 undef hHeld rfl rfl (by kernel_rfl) (by kernel_rfl) (by kernel_rfl) (fun _ _ _ h => h) (Or.inr ⟨by rfl, rfl⟩) ?_
      simp only [Act.put, List.setIfInBounds_toArray, List.set_cons_zero, List.set_cons_succ]
      refine takeH 18 44 (.bool false) hHeld rfl rfl (by kernel_rfl) (by kernel_rfl) (by kernel_rfl) (fun _ _ _ h => h) (Or.inl ⟨by rfl, fun w _ => by go_simp⟩) ?_
      simp only [Act.put, List.setIfInBounds_toArray, List.set_cons_zero, List.set_cons_succ]
      refine wpAnyH_done (by kernel_rfl) ?_ _
      refine Only.normal ?_
      obtain ⟨Vd, hVd⟩ : ∃ v, V2.drew = v := ⟨_, rfl⟩
      rw [hVd] at hHeld ⊢
      clear hVd
      gi_wp2
      exact ⟨(HO2.out.trans (keepsO_below hHeld)).from _, HS2.out.trans (KS.below hHeld), _, _, (HF2.out.on hHeld).skip hskip⟩
    obtain ⟨H', L', I, N', rfl, rfl, rfl, rfl, hH', hN1, hN2⟩ := htok
    have hprr : PrR ss (H' : Int) (L' : Int) (I : Int) (N' : Int) 0 := .inl ⟨rfl, ⟨H', L', I, N', rfl, rfl, rfl, rfl, hH', hN1, hN2⟩, hpath⟩
    by_cases hEq : H' = H ∧ L' = L ∧ N' = P
    rotate_left
    · have hskip : ∀ i, tFB H L i = true → n ≤ i * 2 ^ H → sN H L i ≠ bA ss := fun i ht _ hs => by
        have h1 := hprr.uniq (prr_of HP.out ht hs)
        exact hEq ⟨by omega, by omega, by omega⟩
      have hne : ((H' : Int) == (H : Int) && (L' : Int) == (L : Int) && (I : Int) == (I : Int) && (N' : Int) == (P : Int)) = false := by
        rw [Bool.eq_false_iff]
        intro h
        simp at h
        exact hEq ⟨by omega, by omega, by omega⟩
      clear hprr hpath hN2 hEq
      gi_wp2_with fail
      refine wpIn_region_held (S := fun v => Below V2.heap.size V2 v) (WideF.round l) (by kernel_rfl) (by kernel_rfl) (Below.refl V2.heap.size V2).drew (fun hHeld => ?_)
      refine takeH 0 26 (.int .i64 0) hHeld rfl rfl (by kernel_rfl) (by kernel_rfl) (by kernel_rfl) (fun _ _ _ h => h) (Or.inl ⟨by rfl, fun w _ => by go_simp⟩) ?_
      simp only [Act.put, List.setIfInBounds_toArray, List.set_cons_zero, List.set_cons_succ]
      refine takeH 1 27 (.bool true) hHeld rfl rfl (by kernel_rfl) (by kernel_rfl) (by kernel_rfl) (fun _ _ _ h => h) (Or.inl ⟨by rfl, fun w _ => by go_simp⟩) ?_
      simp only [Act.put, List.setIfInBounds_toArray, List.set_cons_zero, List.set_cons_succ]
      refine takeH 2 28 (.bool true) hHeld rfl rfl (by kernel_rfl) (by kernel_rfl) (by kernel_rfl) (fun _ _ _ h => h) (Or.inl ⟨by rfl, fun w _ => by go_simp⟩) ?_
      simp only [Act.put, List.setIfInBounds_toArray, List.set_cons_zero, List.set_cons_succ]
      refine takeH 3 29 (.agg (c4 (H' : Int) (L' : Int) (I : Int) (N' : Int)).toArray) hHeld rfl rfl (by kernel_rfl) (by kernel_rfl) (by kernel_rfl) (fun _ _ _ h => h) (yieldsIf_load_mid (by rfl) _ _ rfl g11 0 rfl _ _ (fun w h => HRG.out w h) Tryz.underlying43 rfl HI4.out) ?_
      simp only [Act.put, List.setIfInBounds_toArray, List.set_cons_zero, List.set_cons_succ]
      refine takeH 4 30 (.int .i64 (H : Int)) hHeld rfl rfl (by kernel_rfl) (by kernel_rfl) (by kernel_rfl) (fun _ _ _ h => h) (Or.inl ⟨by rfl, fun w hw => by have hw' : w.cell? ⟨b5, 0, none⟩ = some (.int .i64 (H : Int)) := (fun hw => by rw [((HF2.out.on hw).c5).cell]; rfl) hw; go_simp⟩) ?_
      simp only [Act.put, List.setIfInBounds_toArray, List.set_cons_zero, List.set_cons_succ]
      refine takeH 5 31 (.int .i64 (L : Int)) hHeld rfl rfl (by kernel_rfl) (by kernel_rfl) (by kernel_rfl) (fun _ _ _ h => h) (Or.inl ⟨by rfl, fun w hw => by have hw' : w.cell? ⟨b6, 0, none⟩ = some (.int .i64 (L : Int)) := (fun hw => by rw [((HF2.out.on hw).c6).cell]; rfl) hw; go_simp⟩) ?_
      simp only [Act.put, List.setIfInBounds_toArray, List.set_cons_zero, List.set_cons_succ]
      refine takeH 6 32 (.pointer (some ⟨g11, 2, none⟩)) hHeld rfl rfl (by kernel_rfl) (by kernel_rfl) (by kernel_rfl) (fun _ _ _ h => h) (Or.inl ⟨by rfl, fun w _ => by go_simp⟩) ?_
      simp only [Act.put, List.setIfInBounds_toArray, List.set_cons_zero, List.set_cons_succ]
      refine takeH 7 33 (.int .i64 (I : Int)) hHeld rfl rfl (by kernel_rfl) (by kernel_rfl) (by kernel_rfl) (fun _ _ _ h => h) (Or.inl ⟨by rfl, fun w hw => by have hw' : w.cell? ⟨g11, 2, none⟩ = some (.int .i64 (I : Int)) := (fun hw => by rw [((HG2.out.on hw)).cell]; rfl) hw; go_simp⟩) ?_
      simp only [Act.put, List.setIfInBounds_toArray, List.set_cons_zero, List.set_cons_succ]
      refine wpAnyH_ready (rs := [8]) (by kernel_rfl) (by simp) (AllReadyH.cons rfl (fun K hK => ?_) AllReadyH.nil)
      rw [if_pos (by rfl)]
      go_simp
      refine (HFU.out _ _).mono ?_
      rintro r v8 ⟨rfl, hb8⟩
      refine hK.out _ _ ((hHeld.trans (hb8.mono hHeld.size))) (fun hHeld => ?_)
      clear hK K
      try simp only [Act.put, List.setIfInBounds_toArray, List.set_cons_zero, List.set_cons_succ]
      refine takeH 9 35 (.bool false) hHeld rfl rfl (by kernel_rfl) (by kernel_rfl) (by kernel_rfl) (fun _ _ _ h => h) (Or.inl ⟨by rfl, fun w _ => run_eqTl false hne rfl rfl⟩) ?_
      simp only [Act.put, List.setIfInBounds_toArray, List.set_cons_zero, List.set_cons_succ]
      refine takeH 10 36 (.bool false) hHeld rfl rfl (by kernel_rfl) (by kernel_rfl) (by kernel_rfl) (fun _ _ _ h => h) (Or.inl ⟨by rfl, fun w _ => by go_simp⟩) ?_
      simp only [Act.put, List.setIfInBounds_toArray, List.set_cons_zero, List.set_cons_succ]
      refine takeH 11 37 (.bool false) hHeld rfl rfl (by kernel_rfl) (by kernel_rfl) (by kernel_rfl) (fun _ _ _ h => h) (Or.inl ⟨by rfl, fun w _ => by go_simp⟩) ?_
      simp only [Act.put, List.setIfInBounds_toArray, List.set_cons_zero, List.set_cons_succ]
      refine takeH 12 38 undef hHeld rfl rfl (by kernel_rfl) (by kernel_rfl) (by kernel_rfl) (fun _ _ _ h => h) (Or.inr ⟨by rfl, rfl⟩) ?_
      simp only [Act.put, List.setIfInBounds_toArray, List.set_cons_zero, List.set_cons_succ]
      refine takeH 13 39 undef hHeld rfl rfl (by kernel_rfl) (by kernel_rfl) (by kernel_rfl) (fun _ _ _ h => h) (Or.inr ⟨by rfl, rfl⟩) ?_
      simp only [Act.put, List.setIfInBounds_toArray, List.set_cons_zero, List.set_cons_succ]
      refine takeH 14 40 undef hHeld rfl rfl (by kernel_rfl) (by kernel_rfl) (by kernel_rfl) (fun _ _ _ h => h) (Or.inr ⟨by rfl, rfl⟩) ?_
      simp only [Act.put, List.setIfInBounds_toArray, List.set_cons_zero, List.set_cons_succ]
      refine takeH 15 41 undef hHeld rfl rfl (by kernel_rfl) (by kernel_rfl) (by kernel_rfl) (fun _ _ _ h => h) (Or.inr ⟨by rfl, rfl⟩) ?_
      simp only [Act.put, List.setIfInBounds_toArray, List.set_cons_zero, List.set_cons_succ]
      refine takeH 16 42 undef hHeld rfl rfl (by kernel_rfl) (by kernel_rfl) (by kernel_rfl) (fun _ _ _ h => h) (Or.inr ⟨by rfl, rfl⟩) ?_
      simp only [Act.put, List.setIfInBounds_toArray, List.set_cons_zero, List.set_cons_succ]
      refine takeH 17 43 undef hHeld rfl rfl (by kernel_rfl) (by kernel_rfl) (by kernel_rfl) (fun _ _ _ h => h) (Or.inr ⟨by rfl, rfl⟩) ?_
      simp only [Act.put, List.setIfInBounds_toArray, List.set_cons_zero, List.set_cons_succ]
      refine takeH 18 44 (.bool false) hHeld rfl rfl (by kernel_rfl) (by kernel_rfl) (by kernel_rfl) (fun _ _ _ h => h) (Or.inl ⟨by rfl, fun w _ => by go_simp⟩) ?_
      simp only [Act.put, List.setIfInBounds_toArray, List.set_cons_zero, List.set_cons_succ]
      refine wpAnyH_done (by kernel_rfl) ?_ _
      refine Only.normal ?_
      obtain ⟨Vd, hVd⟩ : ∃ v, v8 = v := ⟨_, rfl⟩
      rw [hVd] at hHeld ⊢
      clear hVd
      gi_wp2
      exact ⟨(HO2.out.trans (keepsO_below hHeld)).from _, HS2.out.trans (KS.below hHeld), _, _, (HF2.out.on hHeld).skip hskip⟩
    obtain ⟨e1, e2, e3⟩ := hEq
    have e1 := e1.symm
    have e2 := e2.symm
    have e3 := e3.symm
    subst e1 e2 e3
    have htf : tFB H L I = true := tFB_of hh (by rw [HP.out]; exact hN2)
    have hIb := (tFB_bd htf).2.2.2.1
    rw [HP.out, Nat.add_mul] at hIb
    have hshl := shl_P H P I hh HP.out (by omega)
    have heq : ((H : Int) == (H : Int) && (L : Int) == (L : Int) && (I : Int) == (I : Int) && (P : Int) == (P : Int)) = true := by simp
    have hnm : bA ss = sN H L I := by
      unfold sN
      rw [sP_ok htf, HP.out, hpath]
    have HNM := hide hnm
    clear hnm
    by_cases hge : n ≤ I * P
    · have hgq : decide ((n : Int) ≤ ((I * P : Nat) : Int)) = true := decide_eq_true (by omega)
      clear hprr hpath hN2
      have hgg : (binOp .geq 3 (.int .i64 ((I * P : Nat) : Int)) (.int .i64 (n : Int))).run Tryz.prog = fun w => .ok (.bool true) w := by
        funext w
        have h1 : (n : Int) ≤ ((I * P : Nat) : Int) := by omega
        generalize ((I * P : Nat) : Int) = z at *
        go_simp
      generalize ((I * P : Nat) : Int) = z at *
      gi_wp2_with fail
      refine wpIn_region_held (S := fun v => Below V2.heap.size V2 v) (WideF.round l) (by kernel_rfl) (by kernel_rfl) (Below.refl V2.heap.size V2).drew (fun hHeld => ?_)
      refine takeH 0 26 (.int .i64 0) hHeld rfl rfl (by kernel_rfl) (by kernel_rfl) (by kernel_rfl) (fun _ _ _ h => h) (Or.inl ⟨by rfl, fun w _ => by go_simp⟩) ?_
      simp only [Act.put, List.setIfInBounds_toArray, List.set_cons_zero, List.set_cons_succ]
      refine takeH 1 27 (.bool true) hHeld rfl rfl (by kernel_rfl) (by kernel_rfl) (by kernel_rfl) (fun _ _ _ h => h) (Or.inl ⟨by rfl, fun w _ => by go_simp⟩) ?_
      simp only [Act.put, List.setIfInBounds_toArray, List.set_cons_zero, List.set_cons_succ]
      refine takeH 2 28 (.bool true) hHeld rfl rfl (by kernel_rfl) (by kernel_rfl) (by kernel_rfl) (fun _ _ _ h => h) (Or.inl ⟨by rfl, fun w _ => by go_simp⟩) ?_
      simp only [Act.put, List.setIfInBounds_toArray, List.set_cons_zero, List.set_cons_succ]
      refine takeH 3 29 (.agg (c4 (H : Int) (L : Int) (I : Int) (P : Int)).toArray) hHeld rfl rfl (by kernel_rfl) (by kernel_rfl) (by kernel_rfl) (fun _ _ _ h => h) (yieldsIf_load_mid (by rfl) _ _ rfl g11 0 rfl _ _ (fun w h => HRG.out w h) Tryz.underlying43 rfl HI4.out) ?_
      simp only [Act.put, List.setIfInBounds_toArray, List.set_cons_zero, List.set_cons_succ]
      refine takeH 4 30 (.int .i64 (H : Int)) hHeld rfl rfl (by kernel_rfl) (by kernel_rfl) (by kernel_rfl) (fun _ _ _ h => h) (Or.inl ⟨by rfl, fun w hw => by have hw' : w.cell? ⟨b5, 0, none⟩ = some (.int .i64 (H : Int)) := (fun hw => by rw [((HF2.out.on hw).c5).cell]; rfl) hw; go_simp⟩) ?_
      simp only [Act.put, List.setIfInBounds_toArray, List.set_cons_zero, List.set_cons_succ]
      refine takeH 5 31 (.int .i64 (L : Int)) hHeld rfl rfl (by kernel_rfl) (by kernel_rfl) (by kernel_rfl) (fun _ _ _ h => h) (Or.inl ⟨by rfl, fun w hw => by have hw' : w.cell? ⟨b6, 0, none⟩ = some (.int .i64 (L : Int)) := (fun hw => by rw [((HF2.out.on hw).c6).cell]; rfl) hw; go_simp⟩) ?_
      simp only [Act.put, List.setIfInBounds_toArray, List.set_cons_zero, List.set_cons_succ]
      refine takeH 6 32 (.pointer (some ⟨g11, 2, none⟩)) hHeld rfl rfl (by kernel_rfl) (by kernel_rfl) (by kernel_rfl) (fun _ _ _ h => h) (Or.inl ⟨by rfl, fun w _ => by go_simp⟩) ?_
      simp only [Act.put, List.setIfInBounds_toArray, List.set_cons_zero, List.set_cons_succ]
      refine takeH 7 33 (.int .i64 (I : Int)) hHeld rfl rfl (by kernel_rfl) (by kernel_rfl) (by kernel_rfl) (fun _ _ _ h => h) (Or.inl ⟨by rfl, fun w hw => by have hw' : w.cell? ⟨g11, 2, none⟩ = some (.int .i64 (I : Int)) := (fun hw => by rw [((HG2.out.on hw)).cell]; rfl) hw; go_simp⟩) ?_
      simp only [Act.put, List.setIfInBounds_toArray, List.set_cons_zero, List.set_cons_succ]
      refine wpAnyH_ready (rs := [8]) (by kernel_rfl) (by simp) (AllReadyH.cons rfl (fun K hK => ?_) AllReadyH.nil)
      rw [if_pos (by rfl)]
      go_simp
      refine (HFU.out _ _).mono ?_
      rintro r v8 ⟨rfl, hb8⟩
      refine hK.out _ _ ((hHeld.trans (hb8.mono hHeld.size))) (fun hHeld => ?_)
      clear hK K
      try simp only [Act.put, List.setIfInBounds_toArray, List.set_cons_zero, List.set_cons_succ]
      refine takeH 9 35 (.bool true) hHeld rfl rfl (by kernel_rfl) (by kernel_rfl) (by kernel_rfl) (fun _ _ _ h => h) (Or.inl ⟨by rfl, fun w _ => run_eqTl true heq rfl rfl⟩) ?_
      simp only [Act.put, List.setIfInBounds_toArray, List.set_cons_zero, List.set_cons_succ]
      refine takeH 10 36 (.bool true) hHeld rfl rfl (by kernel_rfl) (by kernel_rfl) (by kernel_rfl) (fun _ _ _ h => h) (Or.inl ⟨by rfl, fun w _ => by go_simp⟩) ?_
      simp only [Act.put, List.setIfInBounds_toArray, List.set_cons_zero, List.set_cons_succ]
      refine takeH 11 37 (.bool true) hHeld rfl rfl (by kernel_rfl) (by kernel_rfl) (by kernel_rfl) (fun _ _ _ h => h) (Or.inl ⟨by rfl, fun w _ => by go_simp⟩) ?_
      simp only [Act.put, List.setIfInBounds_toArray, List.set_cons_zero, List.set_cons_succ]
      refine takeH 12 38 (.pointer (some ⟨g11, 2, none⟩)) hHeld rfl rfl (by kernel_rfl) (by kernel_rfl) (by kernel_rfl) (fun _ _ _ h => h) (Or.inl ⟨by rfl, fun w _ => by go_simp⟩) ?_
      simp only [Act.put, List.setIfInBounds_toArray, List.set_cons_zero, List.set_cons_succ]
      refine takeH 13 39 (.int .i64 (I : Int)) hHeld rfl rfl (by kernel_rfl) (by kernel_rfl) (by kernel_rfl) (fun _ _ _ h => h) (Or.inl ⟨by rfl, fun w hw => by have hw' : w.cell? ⟨g11, 2, none⟩ = some (.int .i64 (I : Int)) := (fun hw => by rw [((HG2.out.on hw)).cell]; rfl) hw; go_simp⟩) ?_
      simp only [Act.put, List.setIfInBounds_toArray, List.set_cons_zero, List.set_cons_succ]
      refine takeH 14 40 (.int .i64 (H : Int)) hHeld rfl rfl (by kernel_rfl) (by kernel_rfl) (by kernel_rfl) (fun _ _ _ h => h) (Or.inl ⟨by rfl, fun w hw => by have hw' : w.cell? ⟨b5, 0, none⟩ = some (.int .i64 (H : Int)) := (fun hw => by rw [((HF2.out.on hw).c5).cell]; rfl) hw; go_simp⟩) ?_
      simp only [Act.put, List.setIfInBounds_toArray, List.set_cons_zero, List.set_cons_succ]
      refine takeH 15 41 (.int .i64 z) hHeld rfl rfl (by kernel_rfl) (by kernel_rfl) (by kernel_rfl) (fun _ _ _ h => h) (Or.inl ⟨by rfl, fun w _ => run_op rfl (hshl w)⟩) ?_
      simp only [Act.put, List.setIfInBounds_toArray, List.set_cons_zero, List.set_cons_succ]
      refine takeH 16 42 (.int .i64 (n : Int)) hHeld rfl rfl (by kernel_rfl) (by kernel_rfl) (by kernel_rfl) (fun _ _ _ h => h) (Or.inl ⟨by rfl, fun w hw => by have hw' : w.cell? ⟨b7, 0, none⟩ = some (.int .i64 (n : Int)) := (fun hw => by rw [((HF2.out.on hw).c7).cell]; rfl) hw; go_simp⟩) ?_
      simp only [Act.put, List.setIfInBounds_toArray, List.set_cons_zero, List.set_cons_succ]
      refine takeH 17 43 (.bool true) hHeld rfl rfl (by kernel_rfl) (by kernel_rfl) (by kernel_rfl) (fun _ _ _ h => h) (Or.inl ⟨by rfl, fun w _ => run_op rfl ((fun w => congrFun hgg w) w)⟩) ?_
      simp only [Act.put, List.setIfInBounds_toArray, List.set_cons_zero, List.set_cons_succ]
      refine takeH 18 44 (.bool true) hHeld rfl rfl (by kernel_rfl) (by kernel_rfl) (by kernel_rfl) (fun _ _ _ h => h) (Or.inl ⟨by rfl, fun w _ => by go_simp⟩) ?_
      simp only [Act.put, List.setIfInBounds_toArray, List.set_cons_zero, List.set_cons_succ]
      refine wpAnyH_done (by kernel_rfl) ?_ _
      refine Only.normal ?_
      obtain ⟨Vd, hVd⟩ : ∃ v, v8 = v := ⟨_, rfl⟩
      rw [hVd] at hHeld ⊢
      clear hVd
      have HFd := hide (HF2.out.on hHeld)
      have HGd := hide (HG2.out.on hHeld)
      have d9 : Vd.cell? ⟨b9, 0, none⟩ = some fv := by rw [HFd.out.c9.cell]; rfl
      have HSd := hide (HS2.out.trans (KS.below hHeld))
      have HOd := hide (HO2.out.trans (keepsO_below hHeld))
      clear hHeld
      gi_wp2_with (first | (refine istep_loadA (.round l) wT rfl rfl HGd.out rfl ?_) | (refine istep_oneT (.round l) rfl rfl ?_; intro w3 gq hgq hle3 hb3; have HQ3 := hide hgq; have HB3 := hide hb3; have HF3 := hide (HFd.out.on hb3); clear hgq hb3) | (refine istep_appT (.round l) (m := 1) (ys := c4 (H : Int) (L : Int) (I : Int) (P : Int)) rfl rfl rfl HF3.out.row (vw_one HQ3.out) (One.c4 _ _ _ _) (by have := HFEW.out; omega) HF3.out.sz ?_; intro fv' w4 hrow hgr; have HW4 := hide (row_app hrow); obtain ⟨g', cap', cs', rfl, _⟩ := row_at hrow (Nat.succ_pos _); have HGR := hide hgr; have c94 : Blk w4 b9 136 [fv] := HF3.out.c9.same (hgr.block b9 HF3.out.c9.lt (fun e => by have := row_ge HF3.out.row e.symm; have := HF3.out.l9.2.1; omega)); have d94 : w4.cell? ⟨b9, 0, none⟩ = some fv := (by rw [c94.cell]; rfl); have f94 := c94.free 0; clear hrow hgr c94))
      gi_wp2
      have h9 := HFd.out.push htf (by rw [HP.out]; exact hge) HNM.out HNEW.out HB3.out HW4.out HGR.out rfl
      exact ⟨(HOd.out.trans h9.2.2).from _, HSd.out.trans h9.2.1, _, _, h9.1⟩
    · have hskip : ∀ i, tFB H L i = true → n ≤ i * 2 ^ H → sN H L i ≠ bA ss := fun i ht hi hs => by
        have h1 := hprr.uniq (prr_of HP.out ht hs)
        have : i = I := by omega
        subst this
        rw [HP.out] at hi
        exact hge hi
      have hgg : (binOp .geq 3 (.int .i64 ((I * P : Nat) : Int)) (.int .i64 (n : Int))).run Tryz.prog = fun w => .ok (.bool false) w := by
        funext w
        have h1 : ¬ (n : Int) ≤ ((I * P : Nat) : Int) := by omega
        generalize ((I * P : Nat) : Int) = z at *
        go_simp
      clear hprr hpath hN2
      generalize ((I * P : Nat) : Int) = z at *
      gi_wp2_with fail
      refine wpIn_region_held (S := fun v => Below V2.heap.size V2 v) (WideF.round l) (by kernel_rfl) (by kernel_rfl) (Below.refl V2.heap.size V2).drew (fun hHeld => ?_)
      refine takeH 0 26 (.int .i64 0) hHeld rfl rfl (by kernel_rfl) (by kernel_rfl) (by kernel_rfl) (fun _ _ _ h => h) (Or.inl ⟨by rfl, fun w _ => by go_simp⟩) ?_
      simp only [Act.put, List.setIfInBounds_toArray, List.set_cons_zero, List.set_cons_succ]
      refine takeH 1 27 (.bool true) hHeld rfl rfl (by kernel_rfl) (by kernel_rfl) (by kernel_rfl) (fun _ _ _ h => h) (Or.inl ⟨by rfl, fun w _ => by go_simp⟩) ?_
      simp only [Act.put, List.setIfInBounds_toArray, List.set_cons_zero, List.set_cons_succ]
      refine takeH 2 28 (.bool true) hHeld rfl rfl (by kernel_rfl) (by kernel_rfl) (by kernel_rfl) (fun _ _ _ h => h) (Or.inl ⟨by rfl, fun w _ => by go_simp⟩) ?_
      simp only [Act.put, List.setIfInBounds_toArray, List.set_cons_zero, List.set_cons_succ]
      refine takeH 3 29 (.agg (c4 (H : Int) (L : Int) (I : Int) (P : Int)).toArray) hHeld rfl rfl (by kernel_rfl) (by kernel_rfl) (by kernel_rfl) (fun _ _ _ h => h) (yieldsIf_load_mid (by rfl) _ _ rfl g11 0 rfl _ _ (fun w h => HRG.out w h) Tryz.underlying43 rfl HI4.out) ?_
      simp only [Act.put, List.setIfInBounds_toArray, List.set_cons_zero, List.set_cons_succ]
      refine takeH 4 30 (.int .i64 (H : Int)) hHeld rfl rfl (by kernel_rfl) (by kernel_rfl) (by kernel_rfl) (fun _ _ _ h => h) (Or.inl ⟨by rfl, fun w hw => by have hw' : w.cell? ⟨b5, 0, none⟩ = some (.int .i64 (H : Int)) := (fun hw => by rw [((HF2.out.on hw).c5).cell]; rfl) hw; go_simp⟩) ?_
      simp only [Act.put, List.setIfInBounds_toArray, List.set_cons_zero, List.set_cons_succ]
      refine takeH 5 31 (.int .i64 (L : Int)) hHeld rfl rfl (by kernel_rfl) (by kernel_rfl) (by kernel_rfl) (fun _ _ _ h => h) (Or.inl ⟨by rfl, fun w hw => by have hw' : w.cell? ⟨b6, 0, none⟩ = some (.int .i64 (L : Int)) := (fun hw => by rw [((HF2.out.on hw).c6).cell]; rfl) hw; go_simp⟩) ?_
      simp only [Act.put, List.setIfInBounds_toArray, List.set_cons_zero, List.set_cons_succ]
      refine takeH 6 32 (.pointer (some ⟨g11, 2, none⟩)) hHeld rfl rfl (by kernel_rfl) (by kernel_rfl) (by kernel_rfl) (fun _ _ _ h => h) (Or.inl ⟨by rfl, fun w _ => by go_simp⟩) ?_
      simp only [Act.put, List.setIfInBounds_toArray, List.set_cons_zero, List.set_cons_succ]
      refine takeH 7 33 (.int .i64 (I : Int)) hHeld rfl rfl (by kernel_rfl) (by kernel_rfl) (by kernel_rfl) (fun _ _ _ h => h) (Or.inl ⟨by rfl, fun w hw => by have hw' : w.cell? ⟨g11, 2, none⟩ = some (.int .i64 (I : Int)) := (fun hw => by rw [((HG2.out.on hw)).cell]; rfl) hw; go_simp⟩) ?_
      simp only [Act.put, List.setIfInBounds_toArray, List.set_cons_zero, List.set_cons_succ]
      refine wpAnyH_ready (rs := [8]) (by kernel_rfl) (by simp) (AllReadyH.cons rfl (fun K hK => ?_) AllReadyH.nil)
      rw [if_pos (by rfl)]
      go_simp
      refine (HFU.out _ _).mono ?_
      rintro r v8 ⟨rfl, hb8⟩
      refine hK.out _ _ ((hHeld.trans (hb8.mono hHeld.size))) (fun hHeld => ?_)
      clear hK K
      try simp only [Act.put, List.setIfInBounds_toArray, List.set_cons_zero, List.set_cons_succ]
      refine takeH 9 35 (.bool true) hHeld rfl rfl (by kernel_rfl) (by kernel_rfl) (by kernel_rfl) (fun _ _ _ h => h) (Or.inl ⟨by rfl, fun w _ => run_eqTl true heq rfl rfl⟩) ?_
      simp only [Act.put, List.setIfInBounds_toArray, List.set_cons_zero, List.set_cons_succ]
      refine takeH 10 36 (.bool true) hHeld rfl rfl (by kernel_rfl) (by kernel_rfl) (by kernel_rfl) (fun _ _ _ h => h) (Or.inl ⟨by rfl, fun w _ => by go_simp⟩) ?_
      simp only [Act.put, List.setIfInBounds_toArray, List.set_cons_zero, List.set_cons_succ]
      refine takeH 11 37 (.bool true) hHeld rfl rfl (by kernel_rfl) (by kernel_rfl) (by kernel_rfl) (fun _ _ _ h => h) (Or.inl ⟨by rfl, fun w _ => by go_simp⟩) ?_
      simp only [Act.put, List.setIfInBounds_toArray, List.set_cons_zero, List.set_cons_succ]
      refine takeH 12 38 (.pointer (some ⟨g11, 2, none⟩)) hHeld rfl rfl (by kernel_rfl) (by kernel_rfl) (by kernel_rfl) (fun _ _ _ h => h) (Or.inl ⟨by rfl, fun w _ => by go_simp⟩) ?_
      simp only [Act.put, List.setIfInBounds_toArray, List.set_cons_zero, List.set_cons_succ]
      refine takeH 13 39 (.int .i64 (I : Int)) hHeld rfl rfl (by kernel_rfl) (by kernel_rfl) (by kernel_rfl) (fun _ _ _ h => h) (Or.inl ⟨by rfl, fun w hw => by have hw' : w.cell? ⟨g11, 2, none⟩ = some (.int .i64 (I : Int)) := (fun hw => by rw [((HG2.out.on hw)).cell]; rfl) hw; go_simp⟩) ?_
      simp only [Act.put, List.setIfInBounds_toArray, List.set_cons_zero, List.set_cons_succ]
      refine takeH 14 40 (.int .i64 (H : Int)) hHeld rfl rfl (by kernel_rfl) (by kernel_rfl) (by kernel_rfl) (fun _ _ _ h => h) (Or.inl ⟨by rfl, fun w hw => by have hw' : w.cell? ⟨b5, 0, none⟩ = some (.int .i64 (H : Int)) := (fun hw => by rw [((HF2.out.on hw).c5).cell]; rfl) hw; go_simp⟩) ?_
      simp only [Act.put, List.setIfInBounds_toArray, List.set_cons_zero, List.set_cons_succ]
      refine takeH 15 41 (.int .i64 z) hHeld rfl rfl (by kernel_rfl) (by kernel_rfl) (by kernel_rfl) (fun _ _ _ h => h) (Or.inl ⟨by rfl, fun w _ => run_op rfl (hshl w)⟩) ?_
      simp only [Act.put, List.setIfInBounds_toArray, List.set_cons_zero, List.set_cons_succ]
      refine takeH 16 42 (.int .i64 (n : Int)) hHeld rfl rfl (by kernel_rfl) (by kernel_rfl) (by kernel_rfl) (fun _ _ _ h => h) (Or.inl ⟨by rfl, fun w hw => by have hw' : w.cell? ⟨b7, 0, none⟩ = some (.int .i64 (n : Int)) := (fun hw => by rw [((HF2.out.on hw).c7).cell]; rfl) hw; go_simp⟩) ?_
      simp only [Act.put, List.setIfInBounds_toArray, List.set_cons_zero, List.set_cons_succ]
      refine takeH 17 43 (.bool false) hHeld rfl rfl (by kernel_rfl) (by kernel_rfl) (by kernel_rfl) (fun _ _ _ h => h) (Or.inl ⟨by rfl, fun w _ => run_op rfl ((fun w => congrFun hgg w) w)⟩) ?_
      simp only [Act.put, List.setIfInBounds_toArray, List.set_cons_zero, List.set_cons_succ]
      refine takeH 18 44 (.bool false) hHeld rfl rfl (by kernel_rfl) (by kernel_rfl) (by kernel_rfl) (fun _ _ _ h => h) (Or.inl ⟨by rfl, fun w _ => by go_simp⟩) ?_
      simp only [Act.put, List.setIfInBounds_toArray, List.set_cons_zero, List.set_cons_succ]
      refine wpAnyH_done (by kernel_rfl) ?_ _
      refine Only.normal ?_
      obtain ⟨Vd, hVd⟩ : ∃ v, v8 = v := ⟨_, rfl⟩
      rw [hVd] at hHeld ⊢
      clear hVd
      gi_wp2
      exact ⟨(HO2.out.trans (keepsO_below hHeld)).from _, HS2.out.trans (KS.below hHeld), _, _, (HF2.out.on hHeld).skip hskip⟩
  case done =>
    rintro Dk ys W hD hS ⟨fv, is, hf⟩ hK2
    clear hb5
    have HF := hide hf
    have hlen : is.length ≤ 1000000 := by
      have h1 := hf.len
      rw [hS, List.length_map] at h1
      have := HLS.out
      omega
    have HSO := hide (sort_tl _ _ _ _ _ _ _ hf.row (by omega))
    have HTI : Hid (∀ js : List Nat, js.Perm is → (js.Pairwise fun a b => ¬ a < b) → TrI (play rs) H L n js) := hide (by
      intro js hp hw
      refine ⟨?_, fun i => ?_⟩
      · have h1 : js.Nodup := hp.nodup_iff.2 hf.nd
        have h2 := List.Pairwise.and hw (show js.Pairwise (fun a b => a ≠ b) from h1)
        exact h2.imp (fun {a b} h => by have := h.1; have := h.2; omega)
      · rw [hp.mem_iff, hf.mem i, hS]
        have h1 : sN H L i ∈ ls.map (fun x => x.1) ↔ (play rs (sN H L i)).isSome = true := by
          rw [List.mem_map]
          constructor
          · rintro ⟨x, hx, e⟩
            have := (HL.out.mem x.1 x.2).2 hx
            rw [← e, this]
            rfl
          · intro h
            obtain ⟨y, hy⟩ := Option.isSome_iff_exists.1 h
            exact ⟨(sN H L i, y), (HL.out.mem _ _).1 hy, rfl⟩
        rw [h1])
    have d9 : W.cell? ⟨b9, 0, none⟩ = some fv := by rw [HF.out.c9.cell]; rfl
    clear hf hS
    go_wp2_with fail
    refine HSO.out.mono ?_
    rintro e W6 ⟨rfl, js, hperm, hpw, hrow6, hgr6⟩
    have HTR := hide (HTI.out js hperm hpw)
    have hown : ∀ k, fv.ownBlock = some k → B ≤ k ∧ ∃ cs, Blk W k 43 cs := fun k hk => ⟨row_ge HF.out.row hk, row_lies HF.out.row hk⟩
    have HB6 : Hid (Below w.heap.size w W6) := hide (HF.out.bel.grown hgr6 HF.out.bel.size (fun r e => by have := (hown r e).1; omega))
    have HDK : Hid (W6.heap[Dk]? = some (.deferred (some []))) := hide ((hgr6.block Dk (Array.getElem?_eq_some_iff.1 hK2).1 (fun e => by
      obtain ⟨_, cs, hc⟩ := hown Dk e.symm
      unfold Blk at hc
      rw [hK2] at hc
      cases hc)).trans hK2)
    have c96 : Blk W6 b9 136 [fv] := HF.out.c9.same (hgr6.block b9 HF.out.c9.lt (fun e => by have := (hown b9 e.symm).1; have := HF.out.l9.2.1; omega))
    have d96 : W6.cell? ⟨b9, 0, none⟩ = some fv := by rw [c96.cell]; rfl
    have hDw : w.heap.size ≤ Dk := by have := G5.out.bel.size; omega
    have hjl : js.length = is.length := hperm.length_eq
    have HRW := hide hrow6
    have HLN : Hid (js.length ≤ 1000000) := hide (by rw [hjl]; exact hlen)
    obtain ⟨fa, fc, hfv⟩ := row_slice hrow6
    subst hfv
    clear hperm hpw hrow6 hgr6 hown c96 d9 hK2 HSO HTI hjl hlen
    generalize hm : js.length = m at *
    have HM := hide hm
    clear hm
    go_wp2
    go_loopw [13, 53] (fun o i wr => ∃ k : Nat, i = .int .i64 (k : Int) ∧ k ≤ m ∧ Hid (wr.ownsRow W6.heap.size 9 1 o k ((js.take k).map fun i => .string (sN H L i))) ∧ Hid (Below W6.heap.size W6 wr)) (fun _ i _ => m - (intOf i).toNat)
    case atStart => exact ⟨0, rfl, Nat.zero_le _, hide (World.ownsRow_nil _ _ _ _), hide (Below.refl _ _)⟩
    case round =>
      obtain ⟨k, rfl, hk, HO, HBW⟩ := hrel
      have hm9 : m ≤ 1000000 := by have h1 := HLN.out; have h2 := HM.out; omega
      by_cases hlt : k < m
      · have hlti : (k : Int) < (m : Int) := by omega
        have hkj : k < js.length := by rw [HM.out]; exact hlt
        obtain ⟨g, cap, cs, e1, hg, hcs, hcl⟩ := row_at HRW.out (by omega)
        injection e1 with e1 e2 e3
        subst e1 e3
        have hix := vw_at roT g m fc k hlt
        obtain ⟨q, hq⟩ : ∃ q, js[k]? = some q := ⟨_, List.getElem?_eq_getElem hkj⟩
        have hcq : (cs.drop (k * 4)).take 4 = c4 (H : Int) (L : Int) (q : Int) (P : Int) := tlC_in HM.out hcs hq
        have htf : tFB H L q = true := ((HTR.out.mem q).1 (List.mem_of_getElem? hq)).1
        have HG := hide (hg.on HBW.out)
        have HQ := hide hq
        have HTP := hide (fun (v : World) (hv : Below wr.heap.size wr v) => tpath_any H L q P HP.out htf v (HE.out.below ((HB6.out.trans (HBW.out.mono HB6.out.size)).trans (hv.mono (Nat.le_trans HB6.out.size HBW.out.size)))).pt)
        clear hg hcs hcl hq htf
        go_wp2_with (first | (refine step_load wT rfl rfl HG.out _ rfl hcq ?_) | (refine step_alloc zT rfl ?_; intro w1 g1 hg1 hle1 hb1; have HG1 := hide hg1; have HB1 := hide hb1; have HL1 := hide hle1; clear hg1 hle1 hb1) | (refine step_storeA wT rfl rfl rfl HG1.out rfl (One.c4 _ _ _ _) rfl ?_; intro w2 hg2 hbut2; have HG2 := hide hg2; have HB2 := hide (HB1.out.trans (hbut2.below HL1.out)); clear hg2 hbut2) | (refine step_loadA wT rfl rfl HG2.out rfl ?_) | (go_at_call 66; refine (HTP.out _ HB2.out).mono ?_; rintro r w3 ⟨rfl, hb3⟩; have HB3 := hide (HB2.out.trans (hb3.mono HB2.out.size)); clear hb3) | (refine step_oneS rfl rfl ?_; intro w4 v4 hv4 hb4; have HB4 := hide (HB3.out.trans (hb4.mono HB3.out.size)); have V4 := hide hv4; have O4 := hide (row_on HO.out HB4.out); clear hb4 hv4) | (refine step_appV rSt rfl rfl rfl O4.out V4.out (fun x hx => by simp at hx; subst hx; rfl) (by have := HLN.out; have := HM.out; omega) (Nat.le_trans HBW.out.size HB4.out.size) ?_; intro v5 w5' hv5 hgr5 hat5; have HB5 : Hid (Below W6.heap.size W6 w5') := hide ((HBW.out.trans (HB4.out.mono HBW.out.size)).trans (grown_below hgr5 (fun k hk => row_ge O4.out hk) (Nat.le_trans HBW.out.size HB4.out.size))); have O5 : Hid (w5'.ownsRow W6.heap.size 9 1 v5 (k + 1) ((js.take (k + 1)).map fun i => .string (sN H L i))) := hide (by rw [takeQ HQ.out, List.map_append]; exact hv5); clear hv5 hgr5 hat5))
        go_roundw
        case rel => exact ⟨k + 1, by go_num, by omega, O5, HB5⟩
        case measure => simp only [intOf]; omega
      · have hlti : ¬ (k : Int) < (m : Int) := by omega
        have hkm : k = m := by omega
        subst hkm
        have hfin := HO.out
        rw [List.take_of_length_le (by rw [HM.out]; exact Nat.le_refl _)] at hfin
        have HFIN := hide hfin
        have HDW : Hid (wr.heap[Dk]? = some (.deferred (some []))) := hide ((HBW.out.block Dk (Array.getElem?_eq_some_iff.1 HDK.out).1).trans HDK.out)
        have HBE := hide (HB6.out.trans (HBW.out.mono HB6.out.size))
        clear hfin
        go_wp2
        refine ⟨by simp, .inl ⟨_, _, rfl, run_takeDeferred HDW.out, ?_⟩⟩
        refine ⟨_, by simp [results, Tryz.f38, go_sem]; rfl, ?_⟩
        refine ⟨_, rfl, js, HTR.out, ?_, HBE.out.trans (belowK_b (w := w) (Nat.le_refl _) _ Dk _ (.deferred none) (by omega) HDW.out rfl rfl), by have h1 := HLN.out; have h2 := HM.out; omega⟩
        rw [HM.out]
        exact rowQ_mono (row_same HFIN.out (fun k e => by
          obtain ⟨cs, hc⟩ := row_lies HFIN.out e
          exact (hc.ck (CK.put (.deferred none) HDW.out rfl)).trans hc.symm)) HB6.out.size

end Go.Proofs.YtlgcjdgcgnlcaaaGreatDoor

/-
  The document's After.
-/
namespace Go.Proofs.YtlgcjdgcgnlcaaaGreatDoor
open Go.RowKit
set_option linter.unusedVariables false

section
variable {w : World} {r s : Nat} {rs : List Rw} {R : Rm}
theorem RkAt.qlen (h : RkAt w r s rs R) : R.qs.length = rs.length := by rw [← h.raw]; simp
end
section
variable (r s : Nat) (rs : List Rw) (R : Rm) (w : World) (h : RkAt w r s rs R)
include h
end

end Go.Proofs.YtlgcjdgcgnlcaaaGreatDoor

/-
  The law's disks: names that may be, the memory that stands through it.
-/
namespace Go.Proofs.YtlgcjdgcgnlcaaaGreatDoor
open Go.RowKit Go.Shelf
set_option linter.unusedVariables false

theorem Blk.kept {A B : World} {g : Nat} {t : TypeId} {cs : List Value} {row : Option Nat} (h : Blk A g t cs) (hg : A.grownBy B row) (hr : ∀ r, row = some r → ∃ o : Obj, A.heap[r]? = some o ∧ o.isCells = false) : Blk B g t cs := by
  have e : B.heap[g]? = A.heap[g]? := hg.block g h.lt (fun e => by
    obtain ⟨o, ho, hc⟩ := hr g e.symm
    rw [h] at ho
    injection ho with ho
    subst ho
    cases hc)
  unfold Blk
  rw [e]
  exact h
theorem RkAt.nmR {w : World} {r s : Nat} {rs : List Rw} {R : Rm} (h : RkAt w r s rs R) {n : ByteArray} {xs : List Int} (hn : play rs n = some xs) : nmB n = true := by
  cases hb : nmB n with
  | true => rfl
  | false =>
    have := Nmd.play h.val n hb
    rw [hn] at this
    cases this
theorem rl_own (ls : List (ByteArray × List Int)) (B : Nat) (pre : List ByteArray) (x : ByteArray) : OwnFrom B (fun (_ : Unit) W => RL ls pre x W) := fun _ W W' row h hg hr => h
/-- What stands through the law's stands. -/
structure SD (w W : World) (b2 b3 b4 b5 d r s : Nat) (rs : List Rw) (D : Dm) (R : Rm) (av : Option Addr) (cv : Nat) : Prop where
  c2 : Blk W b2 26 [.pointer (some ⟨d, 0, none⟩)]
  c3 : Blk W b3 27 [.pointer (some ⟨r, 0, none⟩)]
  c4 : Blk W b4 4 [.bool false]
  c5 : Blk W b5 91 [.slice av R.l.length cv]
  row : W.ownsRow w.heap.size 9 1 (.slice av R.l.length cv) R.l.length (nmsC R.l)
  dk : DkAt W d s rs D
  rk : RkAt W r s rs R
  bel : Below w.heap.size w W
  l4 : w.heap.size ≤ b4
section
variable {w W W' : World} {b2 b3 b4 b5 d r s : Nat} {rs : List Rw} {D : Dm} {R : Rm} {av : Option Addr} {cv : Nat}
theorem SD.on (h : SD w W b2 b3 b4 b5 d r s rs D R av cv) (hb : Below W.heap.size W W') : SD w W' b2 b3 b4 b5 d r s rs D R av cv :=
  ⟨h.c2.on hb, h.c3.on hb, h.c4.on hb, h.c5.on hb, row_on h.row hb, h.dk.below hb, h.rk.below hb, on_below h.bel hb, h.l4⟩
theorem SD.q2 (h : SD w W b2 b3 b4 b5 d r s rs D R av cv) : W.cell? ⟨b2, 0, none⟩ = some (.pointer (some ⟨d, 0, none⟩)) := by rw [h.c2.cell]; rfl
theorem SD.q3 (h : SD w W b2 b3 b4 b5 d r s rs D R av cv) : W.cell? ⟨b3, 0, none⟩ = some (.pointer (some ⟨r, 0, none⟩)) := by rw [h.c3.cell]; rfl
theorem SD.q5 (h : SD w W b2 b3 b4 b5 d r s rs D R av cv) : W.cell? ⟨b5, 0, none⟩ = some (.slice av R.l.length cv) := by rw [h.c5.cell]; rfl
theorem SD.r0 (h : SD w W b2 b3 b4 b5 d r s rs D R av cv) : W.cell? ⟨r, 0, none⟩ = some (.int .i64 (s : Int)) := by rw [h.rk.fk.blk.cell]; rfl
theorem SD.r2 (h : SD w W b2 b3 b4 b5 d r s rs D R av cv) : ∃ a c, R.qv = .slice a rs.length c ∧ W.cell? ⟨r, 2, none⟩ = some (.slice a rs.length c) := by
  obtain ⟨a, c, e⟩ := row_slice h.rk.row
  rw [h.rk.qlen] at e
  exact ⟨a, c, e, by rw [h.rk.fk.blk.cell, ← e]; rfl⟩
end
/-- What the loop over the names keeps besides: its counter. -/
structure AS (W3 W : World) (b6 : Nat) (i : Nat) : Prop where
  bel : Below W3.heap.size W3 W
  c6 : Blk W b6 3 [.int .i64 (i : Int)]
  l6 : W3.heap.size ≤ b6
theorem AS.kept {W3 A C : World} {b6 B i : Nat} {row : Option Nat} (h : AS W3 A b6 i) (hB : W3.heap.size ≤ B) (hg : A.grownBy C row) (hr : ∀ r, row = some r → B ≤ r ∧ ∃ o : Obj, A.heap[r]? = some o ∧ o.isCells = false) : AS W3 C b6 i :=
  ⟨h.bel.grown hg h.bel.size (fun r e => Nat.le_trans hB (hr r e).1), h.c6.kept hg (fun r e => (hr r e).2), h.l6⟩
theorem AS.on {W3 A C : World} {b6 i : Nat} (h : AS W3 A b6 i) (hb : Below A.heap.size A C) : AS W3 C b6 i := ⟨on_below h.bel hb, h.c6.on hb, h.l6⟩
theorem AS.set {W3 W : World} {b6 i : Nat} (h : AS W3 W b6 i) (j : Nat) : AS W3 (W.setCell ⟨b6, 0, none⟩ (.int .i64 (j : Int))) b6 j :=
  ⟨h.bel.trans ((But.setCell W b6 0 (.int .i64 (j : Int))).below h.l6), h.c6.set 0 _, h.l6⟩
theorem AS.but {W3 W W' : World} {b6 i g : Nat} (h : AS W3 W b6 i) (hb : But g W W') (hg : W3.heap.size ≤ g) (hne : b6 ≠ g) : AS W3 W' b6 i := ⟨h.bel.trans (hb.below hg), h.c6.but hb hne, h.l6⟩
/-- Of a file that is there: its bytes. -/
theorem stand_read {w : World} {d s : Nat} {rs : List Rw} {D : Dm} (h : DkAt w d s rs D) {n : ByteArray} {xs : List Int} (hn : nmB n = true) (hf : play rs n = some xs) (hwt : wt rs ≤ 1099511000000) :
    Calls Tryz.prog 47 #[.pointer (some ⟨d, 0, none⟩), .string n, .int .i64 0, .int .i64 ((xs.length : Int) + 1)] w fun e w' => ∃ v, e = .returned (.tuple #[v, .int .i64 0]) ∧ Own w' w.heap.size v xs ∧ Below w.heap.size w w' := by
  have e0 : fE rs n = 0 := by simp [fE, hn, hf]
  have e1 : fl (play rs) n = xs := by simp [fl, hf]
  have e2 : rqE rs n 0 ((xs.length : Int) + 1) = 0 := by
    unfold rqE
    rw [e0, e1, if_pos rfl, if_neg (by omega)]
  have e3 : rqB rs n 0 ((xs.length : Int) + 1) = xs := by
    unfold rqB
    rw [e2, e1, if_pos rfl]
    have e4 : min ((xs.length : Int) + 1).toNat (xs.length - (0 : Int).toNat) = xs.length := by
      simp only [Int.toNat_zero]
      omega
    rw [e4]
    simp
  have := read_any d s rs D w h n 0 ((xs.length : Int) + 1) hwt
  rwa [e2, e3] at this
theorem stand_all {w : World} {r s : Nat} {rs : List Rw} {R : Rm} (h : RkAt w r s rs R) {n : ByteArray} {xs : List Int} (hf : play rs n = some xs) (hwt : wt rs ≤ 1099511000000) :
    Calls Tryz.prog 37 #[.pointer (some ⟨r, 0, none⟩), .string n] w fun e w' => e = .returned (.tuple #[.string (str xs), .bool true]) ∧ Below w.heap.size w w' := by
  have e1 : fl (play rs) n = xs := by simp [fl, hf]
  have := all_any r s rs R w h n hwt
  rwa [e1, hf] at this


end Go.Proofs.YtlgcjdgcgnlcaaaGreatDoor
