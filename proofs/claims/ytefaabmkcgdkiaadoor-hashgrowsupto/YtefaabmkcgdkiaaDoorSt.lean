/-
  stands: does a state tell what the document's does?
-/
import Derived.Test.YtefaabmkcgdkiaaDoorSv
import Derived.Test.YtefaabmkcgdkiaaDoorRv
import Derived.Test.YtefaabmkcgdkiaaDoorGr
import Derived.Test.YtefaabmkcgdkiaaDoorSp
import Derived.Test.YtefaabmkcgdkiaaDoorSc
namespace Go.Proofs.YtefaabmkcgdkiaaDoor
open Go.RowKit
set_option linter.unusedVariables false

section
variable {dst : Option Tmp} {ty : TypeId} {pos : String} {aft : Array Edge} {gd : Option (Nat × Bool)} {a : Act} {w : World} {K : Act → World → Prop} {Q : Exit → Act → World → Prop}
set_option maxRecDepth 100000 in
theorem wp_convG {x : Operand} {sa : Option Addr} {m c : Nat} {ys : List Int} (hx : a.eval x = .slice sa m c) (hy : Sl w sa m c ys) (h : K (a.put dst (.string (str ys))) w) :
    Oper.wp Tryd.prog ⟨dst, .convert 27 9 x, ty, pos, aft, gd⟩ a w K Q :=
  wp_runV (.string (str ys)) w (by simp [execOp, hx, toStr hy, Result.andThen]) h
end

set_option maxRecDepth 100000 in
set_option maxHeartbeats 4000000 in
theorem stands_any (h : List Int) (n0 : Nat) (m : List Int) (g : Nat) (a : Option Addr) (cap : Nat) (w : World) (hg : Blk w g 65 (stM h n0 m)) (hh : h.length = 8) (hw : isW h) (hn0 : n0 % 64 = 0) (hmb : isB m) (hs : Sl w a (m.length % 64) cap (tl m)) (hk : KT w) (hbd : n0 + m.length ≤ 2305843009213693951) :
    Calls Tryd.prog 11 #[.pointer (some ⟨g, 0, none⟩), .agg (rfC (ov h m (bk m)) ((n0 + m.length : Nat) : Int) (.slice a (m.length % 64) cap)).toArray] w fun e w' => e = .returned (.bool true) ∧ Below w.heap.size w w' := by
  have HG := hide hg
  have HH := hide hh
  have HW := hide hw
  have HM := hide hmb
  have HS := hide hs
  have HK := hide hk
  have HRL := hide (rfC_length (ov h m (bk m)) ((n0 + m.length : Nat) : Int) (.slice a (m.length % 64) cap) (ov_length h m hh (bk m)))
  have HRN := hide (rfC_n (ov h m (bk m)) ((n0 + m.length : Nat) : Int) (.slice a (m.length % 64) cap) (ov_length h m hh (bk m)))
  have HSU := fun (w0 : World) (hs0 : Sl w0 a (m.length % 64) cap (tl m)) => rsum_any h n0 m a cap w0 hh hw hs0 hbd
  have HSA := fun (w0 : World) (hs0 : Sl w0 a (m.length % 64) cap (tl m)) => rsave_any h n0 m a cap w0 hh hw hs0 hbd
  have HLE := fun (w0 : World) (hg0 : Blk w0 g 65 (stM h n0 m)) => len_any h n0 m g w0 hg0 hh
  have HSV := fun (w0 : World) (hg0 : Blk w0 g 65 (stM h n0 m)) => save_any h n0 m g w0 hg0 hh hn0 hmb hbd
  have HSL := hide (sv_length h n0 m hh)
  have HSB := hide (sv_isB h n0 m hmb)
  have HD := hide (dg_length h n0 m hh)
  have hr64 : m.length % 64 < 64 := Nat.mod_lt _ (by omega)
  clear hg hh hw hmb hs hk
  obtain ⟨N, hN⟩ : ∃ N, N = n0 + m.length := ⟨_, rfl⟩
  obtain ⟨r, hr⟩ : ∃ r, r = m.length % 64 := ⟨_, rfl⟩
  have QN := hide hN
  rw [← hN] at HRL HRN HSU HSA HLE ⊢
  rw [← hr] at HRL HRN HSU HSA HSV HSL HS hr64 ⊢
  clear hN hr
  have HSUM := hide HSU
  have HSAV := hide HSA
  have HLEN := hide HLE
  have HSVE := hide HSV
  clear HSU HSA HLE HSV
  generalize rfC (ov h m (bk m)) (N : Int) (.slice a r cap) = RC at *
  go_enter Tryd.func11, Tryd.ntmps11
  go_wp2_with (refine step_box rfl rfl ?_)
  intro w1 g3 hg1 hle1 hb1
  have G1 := hide hg1
  have HB1 := hide hb1
  have GS1 := hide (HG.out.below hb1 HG.out.lt)
  clear hg1 hb1
  go_wp2_with fail
  refine (HSVE.out _ GS1.out).mono ?_
  rintro e w2 ⟨gx, rfl, hlx, hgx, hb2⟩
  have HB2 := hide (HB1.out.trans (hb2.mono HB1.out.size))
  have GX2 := hide hgx
  have h3x : g3 ≠ gx := by have := G1.out.lt; omega
  have G2 := hide (G1.out.below hb2 G1.out.lt)
  have GS2 := hide (GS1.out.below hb2 GS1.out.lt)
  clear hgx hb2 G1 GS1
  go_wp2_with fail
  refine (HSVE.out _ GS2.out).mono ?_
  rintro e w3 ⟨gy, rfl, hly, hgy, hb3⟩
  have HB3 := hide (HB2.out.trans (hb3.mono HB2.out.size))
  have GX3 := hide (GX2.out.below hb3 GX2.out.lt)
  have GY3 := hide hgy
  have G3 := hide (G2.out.below hb3 G2.out.lt)
  have GS3 := hide (GS2.out.below hb3 GS2.out.lt)
  have hxy : gy ≠ gx := by have := GX2.out.lt; omega
  have hwx : w.heap.size ≤ gx := Nat.le_trans HB1.out.size hlx
  have S3 := hide (HS.out.below HB3.out)
  have K3 := hide (HK.out.below HB3.out HK.out.lt)
  have AX := hide (HS.out.apart hwx)
  have SX3 := hide (GX3.out.sl0 HSB.out (by rw [HSL.out]; omega))
  have SY3 := hide (GY3.out.sl0 HSB.out (by rw [HSL.out]; omega))
  rw [HSL.out] at SX3 SY3
  have hu := Tryd.underlying29
  have hi : (Tryd.prog.info? 29).map (·.size) = some RC.length := by rw [HRL.out]; kernel_rfl
  clear hgy hb3 G2 GS2 GX2 hlx hly
  go_wp2_with fail
  refine wp_region_noPanic ?_
  have B0 := hide ((Below.refl w3.heap.size w3).drew)
  have hSS : ∀ v, Below w3.heap.size w3 v → v.rangeAt g3 0 RC ∧ v.cell? ⟨g3, 8, none⟩ = some (.int .i64 (N : Int)) ∧ Sl v (some ⟨gx, 0, none⟩) (40 + r) (40 + r) (sv h n0 m) := fun v hv =>
    ⟨(G3.out.below hv G3.out.lt).range 0 _ (by simp), by rw [(G3.out.below hv G3.out.lt).cell]; exact HRN.out, SX3.out.below hv⟩
  refine wp_region_held_drew (S := fun v : World => v.rangeAt g3 0 RC ∧ v.cell? ⟨g3, 8, none⟩ = some (.int .i64 (N : Int)) ∧ Sl v (some ⟨gx, 0, none⟩) (40 + r) (40 + r) (sv h n0 m)) (by kernel_rfl) (hSS _ B0.out) (fun hHeld => ?_)
  refine takeH 0 12 (.pointer (some ⟨g, 0, none⟩)) hHeld rfl rfl (by kernel_rfl) (by kernel_rfl) (by kernel_rfl) (fun _ _ _ h => h) (Or.inl ⟨by rfl, fun w _ => by go_simp⟩) ?_
  simp only [Act.put, List.setIfInBounds_toArray, List.set_cons_zero, List.set_cons_succ]
  refine takeH 2 14 (.agg RC.toArray) hHeld rfl rfl (by kernel_rfl) (by kernel_rfl) (by kernel_rfl) (fun _ _ _ h => h) (yieldsIf_load_mid (by rfl) _ _ rfl g3 0 rfl _ _ (fun w h => h.1) hu rfl hi) ?_
  simp only [Act.put, List.setIfInBounds_toArray, List.set_cons_zero, List.set_cons_succ]
  refine wpAnyH_ready (rs := [1]) (by kernel_rfl) (by simp) (AllReadyH.cons rfl (fun K hK => ?_) AllReadyH.nil)
  rw [if_pos (by rfl)]
  go_simp
  refine (ssum_any h n0 m g _ (GS3.out.below B0.out GS3.out.lt) HH.out hn0 HM.out (K3.out.below B0.out K3.out.lt) hbd).mono ?_
  rintro e v1 ⟨rfl, hv1⟩
  have B1 := hide (B0.out.trans (hv1.mono B0.out.size))
  refine hK.out _ _ (hSS _ B1.out) (fun hHeld => ?_)
  clear hK K
  clear hv1
  refine wpAnyH_ready (rs := [3]) (by kernel_rfl) (by simp) (AllReadyH.cons rfl (fun K hK => ?_) AllReadyH.nil)
  rw [if_pos (by rfl)]
  go_simp
  refine (HSUM.out _ (S3.out.below B1.out)).mono ?_
  rintro e v2 ⟨rfl, hv2⟩
  have B2 := hide (B1.out.trans (hv2.mono B1.out.size))
  refine hK.out _ _ (hSS _ B2.out) (fun hHeld => ?_)
  clear hK K
  clear hv2
  refine takeH 4 16 (.bool true) hHeld rfl rfl (by kernel_rfl) (by kernel_rfl) (by kernel_rfl) (fun _ _ _ h => h) (Or.inl ⟨by rfl, fun v _ => run_eqT aD _ rfl rfl HD.out⟩) ?_
  simp only [Act.put, List.setIfInBounds_toArray, List.set_cons_zero, List.set_cons_succ]
  refine takeH 5 17 (.bool true) hHeld rfl rfl (by kernel_rfl) (by kernel_rfl) (by kernel_rfl) (fun _ _ _ h => h) (Or.inl ⟨by rfl, fun w _ => by go_simp⟩) ?_
  simp only [Act.put, List.setIfInBounds_toArray, List.set_cons_zero, List.set_cons_succ]
  refine takeH 6 18 (.pointer (some ⟨g, 0, none⟩)) hHeld rfl rfl (by kernel_rfl) (by kernel_rfl) (by kernel_rfl) (fun _ _ _ h => h) (Or.inl ⟨by rfl, fun w _ => by go_simp⟩) ?_
  simp only [Act.put, List.setIfInBounds_toArray, List.set_cons_zero, List.set_cons_succ]
  refine takeH 8 20 (.pointer (some ⟨g3, 8, none⟩)) hHeld rfl rfl (by kernel_rfl) (by kernel_rfl) (by kernel_rfl) (fun _ _ _ h => h) (Or.inl ⟨by rfl, fun w _ => by go_simp⟩) ?_
  simp only [Act.put, List.setIfInBounds_toArray, List.set_cons_zero, List.set_cons_succ]
  refine takeH 9 21 (.int .i64 (N : Int)) hHeld rfl rfl (by kernel_rfl) (by kernel_rfl) (by kernel_rfl) (fun _ _ _ h => h) (Or.inl ⟨by rfl, fun w hw => by have hw' : w.cell? ⟨g3, 8, none⟩ = some (.int .i64 (N : Int)) := (fun h => h.2.1) hw; go_simp⟩) ?_
  simp only [Act.put, List.setIfInBounds_toArray, List.set_cons_zero, List.set_cons_succ]
  refine wpAnyH_ready (rs := [7]) (by kernel_rfl) (by simp) (AllReadyH.cons rfl (fun K hK => ?_) AllReadyH.nil)
  rw [if_pos (by rfl)]
  go_simp
  refine (HLEN.out _ (GS3.out.below B2.out GS3.out.lt)).mono ?_
  rintro e v3 ⟨rfl, rfl⟩
  refine hK.out _ _ (hSS _ B2.out) (fun hHeld => ?_)
  clear hK K
  refine takeH 10 22 (.bool true) hHeld rfl rfl (by kernel_rfl) (by kernel_rfl) (by kernel_rfl) (fun _ _ _ h => h) (Or.inl ⟨by rfl, fun w _ => by go_simp⟩) ?_
  simp only [Act.put, List.setIfInBounds_toArray, List.set_cons_zero, List.set_cons_succ]
  refine takeH 11 23 (.bool true) hHeld rfl rfl (by kernel_rfl) (by kernel_rfl) (by kernel_rfl) (fun _ _ _ h => h) (Or.inl ⟨by rfl, fun w _ => by go_simp⟩) ?_
  simp only [Act.put, List.setIfInBounds_toArray, List.set_cons_zero, List.set_cons_succ]
  refine takeH 12 24 (.bool true) hHeld rfl rfl (by kernel_rfl) (by kernel_rfl) (by kernel_rfl) (fun _ _ _ h => h) (Or.inl ⟨by rfl, fun w _ => by go_simp⟩) ?_
  simp only [Act.put, List.setIfInBounds_toArray, List.set_cons_zero, List.set_cons_succ]
  refine takeH 13 25 (.slice (some ⟨gx, 0, none⟩) (40 + r) (40 + r)) hHeld rfl rfl (by kernel_rfl) (by kernel_rfl) (by kernel_rfl) (fun _ _ _ h => h) (Or.inl ⟨by rfl, fun w _ => by go_simp⟩) ?_
  simp only [Act.put, List.setIfInBounds_toArray, List.set_cons_zero, List.set_cons_succ]
  refine takeH 14 26 (.string (str (sv h n0 m))) hHeld rfl rfl (by kernel_rfl) (by kernel_rfl) (by kernel_rfl) (fun _ _ _ h => h) (Or.inl ⟨by rfl, fun w hw => run_op rfl (toStr hw.2.2)⟩) ?_
  simp only [Act.put, List.setIfInBounds_toArray, List.set_cons_zero, List.set_cons_succ]
  refine takeH 15 27 (.agg RC.toArray) hHeld rfl rfl (by kernel_rfl) (by kernel_rfl) (by kernel_rfl) (fun _ _ _ h => h) (yieldsIf_load_mid (by rfl) _ _ rfl g3 0 rfl _ _ (fun w h => h.1) hu rfl hi) ?_
  simp only [Act.put, List.setIfInBounds_toArray, List.set_cons_zero, List.set_cons_succ]
  refine wpAnyH_ready (rs := [16]) (by kernel_rfl) (by simp) (AllReadyH.cons rfl (fun K hK => ?_) AllReadyH.nil)
  rw [if_pos (by rfl)]
  go_simp
  refine (HSAV.out _ (S3.out.below B2.out)).mono ?_
  rintro e v4 ⟨vv, rfl, hov, hnv, hv4⟩
  obtain ⟨gv, cv, ev, _, hsv⟩ := hov.sl HSB.out (by rw [HSL.out]; omega) hnv
  subst ev
  have B4 := hide (B2.out.trans (hv4.mono B2.out.size))
  refine hK.out _ _ (hSS _ B4.out) (fun hHeld => ?_)
  clear hK K
  clear hv4 hov hnv
  refine wpAnyH_ready (rs := [17]) (by kernel_rfl) (by simp) (AllReadyH.cons rfl (fun K hK => ?_) AllReadyH.nil)
  rw [if_pos (by rfl)]
  refine wp_convG rfl hsv ?_
  refine hK.out _ _ (hSS _ B4.out) (fun hHeld => ?_)
  clear hK K
  simp only [Act.put, List.setIfInBounds_toArray, List.set_cons_zero, List.set_cons_succ]
  refine takeH 18 30 (.bool true) hHeld rfl rfl (by kernel_rfl) (by kernel_rfl) (by kernel_rfl) (fun _ _ _ h => h) (Or.inl ⟨by rfl, fun w _ => by go_simp⟩) ?_
  simp only [Act.put, List.setIfInBounds_toArray, List.set_cons_zero, List.set_cons_succ]
  refine takeH 19 31 (.bool true) hHeld rfl rfl (by kernel_rfl) (by kernel_rfl) (by kernel_rfl) (fun _ _ _ h => h) (Or.inl ⟨by rfl, fun w _ => by go_simp⟩) ?_
  simp only [Act.put, List.setIfInBounds_toArray, List.set_cons_zero, List.set_cons_succ]
  refine takeH 20 7 (.bool true) hHeld rfl rfl (by kernel_rfl) (by kernel_rfl) (by kernel_rfl) (fun _ _ _ h => h) (Or.inl ⟨by rfl, fun w _ => by go_simp⟩) ?_
  simp only [Act.put, List.setIfInBounds_toArray, List.set_cons_zero, List.set_cons_succ]
  refine wpAnyH_done (by kernel_rfl) ?_ _
  refine NoPanic.normal ?_
  clear hHeld hsv
  have GX4 := hide (GX3.out.below B4.out GX3.out.lt)
  have HB4 := hide (HB3.out.trans (B4.out.mono HB3.out.size))
  go_wp2_with fail
  refine (spoil_blk gx (40 + r) (40 + r) _ (sv h n0 m) _ GX4.out HSL.out (by omega)).mono ?_
  rintro e w5 ⟨rfl, hbut5⟩
  have G5 := hide ((G3.out.below B4.out G3.out.lt).but hbut5 h3x)
  have SY5 := hide ((SY3.out.below B4.out).but hbut5 (fun _ x hx => by cases hx; exact hxy))
  have S5 := hide ((S3.out.below B4.out).but hbut5 AX.out)
  have HB5 := hide (HB4.out.trans (hbut5.below hwx))
  clear hbut5 hSS G3 GS3 GX3 GY3 S3 K3 SX3 SY3 B0 B1 B2 B4 GX4 HB4
  go_wp2_with fail
  refine wp_region_noPanic ?_
  have C0 := hide ((Below.refl w5.heap.size w5).drew)
  have hST : ∀ v, Below w5.heap.size w5 v → v.rangeAt g3 0 RC ∧ Sl v (some ⟨gy, 0, none⟩) (40 + r) (40 + r) (sv h n0 m) := fun v hv =>
    ⟨(G5.out.below hv G5.out.lt).range 0 _ (by simp), SY5.out.below hv⟩
  refine wp_region_held_drew (S := fun v : World => v.rangeAt g3 0 RC ∧ Sl v (some ⟨gy, 0, none⟩) (40 + r) (40 + r) (sv h n0 m)) (by kernel_rfl) (hST _ C0.out) (fun hHeld => ?_)
  refine takeH 0 34 (.bool true) hHeld rfl rfl (by kernel_rfl) (by kernel_rfl) (by kernel_rfl) (fun _ _ _ h => h) (Or.inl ⟨by rfl, fun w _ => by go_simp⟩) ?_
  simp only [Act.put, List.setIfInBounds_toArray, List.set_cons_zero, List.set_cons_succ]
  refine takeH 1 35 (.bool true) hHeld rfl rfl (by kernel_rfl) (by kernel_rfl) (by kernel_rfl) (fun _ _ _ h => h) (Or.inl ⟨by rfl, fun w _ => by go_simp⟩) ?_
  simp only [Act.put, List.setIfInBounds_toArray, List.set_cons_zero, List.set_cons_succ]
  refine takeH 2 36 (.slice (some ⟨gy, 0, none⟩) (40 + r) (40 + r)) hHeld rfl rfl (by kernel_rfl) (by kernel_rfl) (by kernel_rfl) (fun _ _ _ h => h) (Or.inl ⟨by rfl, fun w _ => by go_simp⟩) ?_
  simp only [Act.put, List.setIfInBounds_toArray, List.set_cons_zero, List.set_cons_succ]
  refine takeH 3 37 (.string (str (sv h n0 m))) hHeld rfl rfl (by kernel_rfl) (by kernel_rfl) (by kernel_rfl) (fun _ _ _ h => h) (Or.inl ⟨by rfl, fun w hw => run_op rfl (toStr hw.2)⟩) ?_
  simp only [Act.put, List.setIfInBounds_toArray, List.set_cons_zero, List.set_cons_succ]
  refine takeH 4 38 (.agg RC.toArray) hHeld rfl rfl (by kernel_rfl) (by kernel_rfl) (by kernel_rfl) (fun _ _ _ h => h) (yieldsIf_load_mid (by rfl) _ _ rfl g3 0 rfl _ _ (fun w h => h.1) hu rfl hi) ?_
  simp only [Act.put, List.setIfInBounds_toArray, List.set_cons_zero, List.set_cons_succ]
  refine wpAnyH_ready (rs := [5]) (by kernel_rfl) (by simp) (AllReadyH.cons rfl (fun K hK => ?_) AllReadyH.nil)
  rw [if_pos (by rfl)]
  go_simp
  refine (HSAV.out _ (S5.out.below C0.out)).mono ?_
  rintro e v6 ⟨vv, rfl, hov, hnv, hv6⟩
  obtain ⟨gv, cv, ev, _, hsv⟩ := hov.sl HSB.out (by rw [HSL.out]; omega) hnv
  subst ev
  have C1 := hide (C0.out.trans (hv6.mono C0.out.size))
  refine hK.out _ _ (hST _ C1.out) (fun hHeld => ?_)
  clear hK K
  clear hv6 hov hnv
  refine wpAnyH_ready (rs := [6]) (by kernel_rfl) (by simp) (AllReadyH.cons rfl (fun K hK => ?_) AllReadyH.nil)
  rw [if_pos (by rfl)]
  refine wp_convG rfl hsv ?_
  refine hK.out _ _ (hST _ C1.out) (fun hHeld => ?_)
  clear hK K
  simp only [Act.put, List.setIfInBounds_toArray, List.set_cons_zero, List.set_cons_succ]
  refine takeH 7 41 (.bool true) hHeld rfl rfl (by kernel_rfl) (by kernel_rfl) (by kernel_rfl) (fun _ _ _ h => h) (Or.inl ⟨by rfl, fun w _ => by go_simp⟩) ?_
  simp only [Act.put, List.setIfInBounds_toArray, List.set_cons_zero, List.set_cons_succ]
  refine takeH 8 42 (.bool true) hHeld rfl rfl (by kernel_rfl) (by kernel_rfl) (by kernel_rfl) (fun _ _ _ h => h) (Or.inl ⟨by rfl, fun w _ => by go_simp⟩) ?_
  simp only [Act.put, List.setIfInBounds_toArray, List.set_cons_zero, List.set_cons_succ]
  refine takeH 9 4 (.bool true) hHeld rfl rfl (by kernel_rfl) (by kernel_rfl) (by kernel_rfl) (fun _ _ _ h => h) (Or.inl ⟨by rfl, fun w _ => by go_simp⟩) ?_
  simp only [Act.put, List.setIfInBounds_toArray, List.set_cons_zero, List.set_cons_succ]
  refine wpAnyH_done (by kernel_rfl) ?_ _
  refine NoPanic.normal ?_
  clear hHeld hsv hu hi
  go_wp2
  go_ret
  exact ⟨rfl, HB5.out.trans (C1.out.mono HB5.out.size)⟩

end Go.Proofs.YtefaabmkcgdkiaaDoor
