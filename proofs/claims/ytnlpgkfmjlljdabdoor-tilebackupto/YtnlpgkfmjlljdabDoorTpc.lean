/-
  A text read as a tile's path, as the program does: number, guess.
-/
import Derived.Test.YtnlpgkfmjlljdabDoorTpb
import Derived.Deep.Cut
namespace Go.Proofs.YtnlpgkfmjlljdabDoor
open Go.RowKit
set_option linter.unusedVariables false
set_option linter.unusedSimpArgs false

set_option maxRecDepth 100000 in
theorem number_any (s : List UInt8) (w : World) (hs : s.length ≤ 1048576) (hv : EV w) : Calls Tryd.prog 34 #[.string (bA s)] w fun r w' => r = .returned (.int .i64 (nuF s)) ∧ Below w.heap.size w w' := by
  by_cases h : ∃ v, Lib.atoiAll s = .ok v
  · obtain ⟨v, h⟩ := h
    have e : nuF s = v := by unfold nuF; rw [h]
    rw [e]
    have HA := hide (atoi_ok s v w hs h)
    clear e h hv
    go_enter Tryd.func34, Tryd.ntmps34
    go_wp2_with fail
    refine HA.out.mono ?_
    rintro r w1 ⟨rfl, hb⟩
    have HB := hide hb
    clear hb HA
    go_wp2
    go_ret
    exact ⟨rfl, HB.out⟩
  · have e : nuF s = -1 := by
      unfold nuF
      split
      · rename_i v hv2; exact absurd ⟨v, hv2⟩ h
      · rfl
    rw [e]
    have HA := hide (atoi_no s w hs hv (fun v hv2 => h ⟨v, hv2⟩))
    clear e h hv
    go_enter Tryd.func34, Tryd.ntmps34
    go_wp2_with fail
    refine HA.out.mono ?_
    rintro r w1 ⟨x, tp, p, rfl, hb⟩
    have HB := hide hb
    clear hb HA
    go_wp2
    go_ret
    exact ⟨rfl, HB.out⟩
theorem cut_le (s sep : List UInt8) : (Lib.cut s sep).1.length ≤ s.length ∧ (Lib.cut s sep).2.1.length ≤ s.length := by
  unfold Lib.cut
  split
  · simp only [List.length_take, List.length_drop]; omega
  · simp
theorem trim_le (s p : List UInt8) : (Lib.trimPrefix s p).length ≤ s.length := by
  unfold Lib.trimPrefix
  split
  · simp
  · exact Nat.le_refl _
theorem rep_le (s : List UInt8) (c : UInt8) : (Lib.replaceAll s [c] []).length ≤ s.length := by
  rw [repAll_filter]
  exact List.length_filter_le _ _
theorem tileS : (Value.string { data := #[116, 105, 108, 101, 47] }) = .string (bA tileB) := rfl
set_option maxRecDepth 100000 in
set_option maxHeartbeats 1000000 in
theorem guess_any (s : List UInt8) (w : World) (hs : s.length ≤ 1048576) (hv : EV w) : Calls Tryd.prog 18 #[.string (bA s)] w fun r w' => r = .returned (.agg (c4 (gH s) (gL s) (gI s) (gW s)).toArray) ∧ Below w.heap.size w w' := by
  have HV := hide hv
  obtain ⟨s0, hs0⟩ : ∃ x, Lib.trimPrefix s tileB = x := ⟨_, rfl⟩
  have l0 : s0.length ≤ 1048576 := by rw [← hs0]; exact Nat.le_trans (trim_le _ _) hs
  obtain ⟨c1, h1⟩ : ∃ x, gName s = x := ⟨_, rfl⟩
  have k1 : Lib.cut s0 markB = c1 := by rw [← h1, ← hs0]; rfl
  obtain ⟨c2, h2⟩ : ∃ x, gHt s = x := ⟨_, rfl⟩
  have k2 : Lib.cut c1.1 [47] = c2 := by rw [← h2, ← h1]; rfl
  obtain ⟨c3, h3⟩ : ∃ x, gLv s = x := ⟨_, rfl⟩
  have k3 : Lib.cut c2.2.1 [47] = c3 := by rw [← h3, ← h2]; rfl
  have m1 := cut_le s0 markB
  rw [k1] at m1
  have m2 := cut_le c1.1 [47]
  rw [k2] at m2
  have m3 := cut_le c2.2.1 [47]
  rw [k3] at m3
  obtain ⟨x1, hx1⟩ : ∃ x, Lib.replaceAll c3.2.1 [120] [] = x := ⟨_, rfl⟩
  obtain ⟨x2, hx2⟩ : ∃ x, Lib.replaceAll x1 [47] [] = x := ⟨_, rfl⟩
  have m4 := rep_le c3.2.1 120
  rw [hx1] at m4
  have m5 := rep_le x1 47
  rw [hx2] at m5
  have g1 : gH s = nuF c2.1 := by unfold gH; rw [h2]
  have g2 : gL s = nuF c3.1 := by unfold gL; rw [h3]
  have g3 : gI s = nuF x2 := by unfold gI gDg; rw [h3, hx1, hx2]
  have g4 : gW s = if c1.2.2 = false ∧ 1 ≤ gH s ∧ gH s ≤ 8 then 2 ^ (gH s).toNat else nuF c1.2.1 := by unfold gW; rw [h1]
  rw [g4, g1, g2, g3]
  obtain ⟨c11, c12, c13⟩ := c1
  obtain ⟨c21, c22, c23⟩ := c2
  obtain ⟨c31, c32, c33⟩ := c3
  simp only at *
  have HT := hide (fun v => trim_any s tileB v)
  rw [hs0] at HT
  have HC1 := hide (fun v hv => cut_any s0 markB v l0 hv)
  rw [k1] at HC1
  have HC2 := hide (fun v hv => cut_any c11 [47] v (by omega) hv)
  rw [k2] at HC2
  have HC3 := hide (fun v hv => cut_any c22 [47] v (by omega) hv)
  rw [k3] at HC3
  have HR1 := hide (fun v hv => repl_any c32 120 v (by omega) hv)
  rw [hx1] at HR1
  have HR2 := hide (fun v hv => repl_any x1 47 v (by omega) hv)
  rw [hx2] at HR2
  have N1 := hide (fun v hv => number_any c21 v (by omega) hv)
  have N2 := hide (fun v hv => number_any c31 v (by omega) hv)
  have N3 := hide (fun v hv => number_any x2 v (by omega) hv)
  have N4 := hide (fun v hv => number_any c12 v (by omega) hv)
  have b1 := nuF_bd c21
  generalize nuF c21 = n1 at *
  generalize nuF c31 = n2 at *
  generalize nuF x2 = n3 at *
  generalize nuF c12 = n4 at *
  clear hs0 h1 k1 h2 k2 h3 k3 hx1 hx2 m1 m2 m3 m4 m5 g1 g2 g3 g4 l0 hv hs
  obtain ⟨RW, HRW⟩ : ∃ x, Hid ((if c13 = false ∧ 1 ≤ n1 ∧ n1 ≤ 8 then 2 ^ n1.toNat else n4) = x) := ⟨_, hide rfl⟩
  rw [HRW.out]
  go_enter Tryd.func18, Tryd.ntmps18
  go_wp2_with (refine step_alloc zT rfl ?_)
  intro w0 g2 hg hle hb
  have G0 := hide hg
  have B0 := hide hb
  have LE := hide hle
  clear hg hb hle
  go_wp2_with fail
  refine (HT.out _).mono ?_
  rintro r w0' ⟨rfl, e0⟩
  subst e0
  clear HT
  go_wp2_with fail
  refine (HC1.out _ (HV.out.below B0.out)).mono ?_
  rintro r w1 ⟨rfl, hb⟩
  have G1 := hide (G0.out.on hb)
  have B1 := hide (on_below B0.out hb)
  clear hb G0 B0 HC1
  go_wp2_with fail
  refine (HC2.out _ (HV.out.below B1.out)).mono ?_
  rintro r w2 ⟨rfl, hb⟩
  have G2 := hide (G1.out.on hb)
  have B2 := hide (on_below B1.out hb)
  clear hb G1 B1 HC2
  go_wp2_with fail
  refine (HC3.out _ (HV.out.below B2.out)).mono ?_
  rintro r w3 ⟨rfl, hb⟩
  have G3 := hide (G2.out.on hb)
  have B3 := hide (on_below B2.out hb)
  clear hb G2 B2 HC3
  go_wp2_with fail
  refine (HR1.out _ (HV.out.below B3.out)).mono ?_
  rintro r w4 ⟨rfl, hb⟩
  have G4 := hide (G3.out.on hb)
  have B4 := hide (on_below B3.out hb)
  clear hb G3 B3 HR1
  go_wp2_with fail
  refine (HR2.out _ (HV.out.below B4.out)).mono ?_
  rintro r w5 ⟨rfl, hb⟩
  have G5 := hide (G4.out.on hb)
  have B5 := hide (on_below B4.out hb)
  clear hb G4 B4 HR2
  go_wp2_with fail
  refine (N1.out _ (HV.out.below B5.out)).mono ?_
  rintro r w6 ⟨rfl, hb⟩
  have G6 := hide (G5.out.on hb)
  have B6 := hide (on_below B5.out hb)
  clear hb G5 B5 N1
  go_wp2_with fail
  refine (N2.out _ (HV.out.below B6.out)).mono ?_
  rintro r w7 ⟨rfl, hb⟩
  have G7 := hide (G6.out.on hb)
  have B7 := hide (on_below B6.out hb)
  clear hb G6 B6 N2
  go_wp2_with fail
  refine (N3.out _ (HV.out.below B7.out)).mono ?_
  rintro r w8 ⟨rfl, hb⟩
  have G8 := hide (G7.out.on hb)
  have B8 := hide (on_below B7.out hb)
  clear hb G7 B7 N3
  go_wp2_with fail
  refine (N4.out _ (HV.out.below B8.out)).mono ?_
  rintro r w9 ⟨rfl, hb⟩
  have G9 := hide (G8.out.on hb)
  have B9 := hide (on_below B8.out hb)
  clear hb G8 B8 N4
  go_wp2_with (first | (refine step_alloc zT rfl ?_; intro wa ga hga hlea hba; have HGA := hide hga; clear hga) | (refine step_storeA wT rfl rfl rfl HGA.out rfl (One.c4 n1 n2 n3 n4) rfl ?_))
  intro wb hgb hbutb
  have hbb : Below w9.heap.size w9 wb := hba.trans (hbutb.below hlea)
  have Gb := hide (G9.out.on hbb)
  have Bb := hide (on_below B9.out hbb)
  have Tb := hide hgb
  have hne : g2 ≠ ga := by have := G9.out.lt; omega
  have LA := hide (Nat.le_trans B9.out.size hlea)
  clear hbb hba hbutb hlea HGA hgb G9 B9 HV
  obtain ⟨t0, t1, t2, t3⟩ := Tb.out.four
  cases c13 with
  | true =>
    obtain rfl : n4 = RW := by rw [← HRW.out, if_neg (by simp)]
    go_wp2_with (first | (refine step_loadA wT rfl rfl Tb.out rfl ?_) | (refine step_storeA wT rfl rfl rfl Gb.out rfl (One.c4 n1 n2 n3 n4) rfl ?_))
    intro wc hgc hbutc
    have BE := hide (Bb.out.trans (hbutc.below LE.out))
    go_wp2
    refine bodyPost_ret (results_wide rfl wT _ _ rfl hgc rfl) rfl ⟨rfl, BE.out⟩
  | false =>
    by_cases hh : 1 ≤ n1 ∧ n1 ≤ 8
    · obtain ⟨H, rfl⟩ : ∃ H : Nat, n1 = (H : Int) := ⟨n1.toNat, by omega⟩
      have hH : isH H := ⟨by omega, by omega⟩
      have HH := hide (fun v => isHeight_yes H v hH)
      obtain ⟨P, hP⟩ : ∃ P, 2 ^ H = P := ⟨_, rfl⟩
      obtain ⟨p1, p2, p3, p4⟩ := pow_w hP hH
      have HPW := hide p1
      have eP : (2 : Int) ^ ((H : Int).toNat) = (P : Int) := by rw [Int.toNat_natCast, ← hP]; simp [Int.natCast_pow]
      obtain rfl : (P : Int) = RW := by rw [← HRW.out, if_pos ⟨rfl, hh⟩, eP]
      clear p1 p2 hP eP hH b1 HRW
      have f3 := Tb.out.free 3
      go_upto_region 8 with (first | (go_at_call 19; refine (HH.out _).mono ?_; rintro r w' ⟨rfl, hv⟩; replace hv := hv.symm; subst hv) | (simp only [HPW.out]))
      obtain ⟨wx, hwx⟩ : ∃ v : World, v = wb.setCell ⟨ga, 3, none⟩ (.int .i64 (P : Int)) := ⟨_, rfl⟩
      have Tx : Hid (Blk wx ga 23 (c4 (H : Int) n2 n3 (P : Int))) := hide (by rw [hwx]; exact Tb.out.set 3 _)
      have hbutx : But ga wb wx := by rw [hwx]; exact But.setCell _ _ _ _
      have Gx := hide (Gb.out.but hbutx hne)
      have Bx := hide (Bb.out.trans (hbutx.below LA.out))
      rw [← hwx]
      clear hwx hbutx Tb Gb Bb t0 t1 t2 t3 f3
      go_wp2_with (first | (refine step_loadA wT rfl rfl Tx.out rfl ?_) | (refine step_storeA wT rfl rfl rfl Gx.out rfl (One.c4 (H : Int) n2 n3 (P : Int)) rfl ?_))
      intro wc hgc hbutc
      have BE := hide (Bx.out.trans (hbutc.below LE.out))
      go_wp2
      refine bodyPost_ret (results_wide rfl wT _ _ rfl hgc rfl) rfl ⟨rfl, BE.out⟩
    · obtain rfl : n4 = RW := by rw [← HRW.out, if_neg (fun h => hh h.2)]
      have HH := hide (fun v => isHeight_no n1 v (by omega))
      go_wp2_with (first | (go_at_call 19; refine (HH.out _).mono ?_; rintro r w' ⟨rfl, rfl⟩) | (refine step_loadA wT rfl rfl Tb.out rfl ?_) | (refine step_storeA wT rfl rfl rfl Gb.out rfl (One.c4 n1 n2 n3 n4) rfl ?_))
      intro wc hgc hbutc
      have BE := hide (Bb.out.trans (hbutc.below LE.out))
      go_wp2
      refine bodyPost_ret (results_wide rfl wT _ _ rfl hgc rfl) rfl ⟨rfl, BE.out⟩
end Go.Proofs.YtnlpgkfmjlljdabDoor
