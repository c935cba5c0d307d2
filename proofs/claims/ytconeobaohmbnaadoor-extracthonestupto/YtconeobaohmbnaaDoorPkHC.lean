/-
  Texts one behind the other: Qq Qr Qt Qu Oz Qh Ic Vg Sx Cy Ve Rz9 Qw Qx Qy Rx9 EaLaw Lx In Cz EhLaw.
-/
import Derived.Test.YtconeobaohmbnaaDoorPkHB
import Derived.Test.YtconeobaohmbnaaDoorPkHA
import Derived.Laws.EntriesVeiled
import Derived.Lib.SlBytesConst
import Derived.Test.YtconeobaohmbnaaDoorFrL

/-
  rehashConsistency: the closure, and the function itself.
-/
namespace Go.Proofs.YtconeobaohmbnaaDoor
open Go.RowKit
set_option linter.unusedVariables false


theorem wrap_is {x : Int} {n : Nat} (h : x = (n : Int)) (h0 : 0 ≤ x) (h1 : x ≤ 9223372036854775807) : wrap64 x = (n : Int) := by
  rw [← h]; unfold wrap64; omega
set_option maxRecDepth 100000 in
set_option maxHeartbeats 1000000 in
theorem ron_any (gm gf gr gs g mb m : Nat) (first : List Int) (hfl : first.length = 32) (hfb : isB first) : ∀ (f b e : Nat) (a : Option Addr) (l cap : Nat) (xs : List Int) (L : List (List Int)) (w : World), e - b ≤ f → b < m → m ≤ e → e ≤ 281474976710656 → l = (hvM m b (e - b)).length + ptM m b (e - b) → Ds w a l cap xs →
    EO w gm gf gr gs g m first → Bk w g mb L →
    Calls Tryd.prog 54 #[.agg (spn b e).toArray, .slice a l cap, .pointer (some ⟨gm, 0, none⟩), .pointer (some ⟨gf, 0, none⟩), .pointer (some ⟨gr, 0, none⟩), .pointer (some ⟨gs, 0, none⟩)] w
      fun r w' => r = .returned (.tuple #[.agg (u8s (fo (hvM m b (e - b)) (xs.drop (32 * ptM m b (e - b))) (st0 (ptM m b (e - b)) first xs) (hvM m b (e - b)).length)).toArray, .agg (u8s (fu (hvM m b (e - b)) (xs.drop (32 * ptM m b (e - b))) (st0 (ptM m b (e - b)) first xs) (hvM m b (e - b)).length)).toArray]) ∧
        Bk w' g mb (L ++ so (hvM m b (e - b)) (xs.drop (32 * ptM m b (e - b))) (st0 (ptM m b (e - b)) first xs) (hvM m b (e - b)).length) ∧ Bel g mb w w' := by
  intro f
  induction f with
  | zero => intro b e a l cap xs L w h1 h2 h3; omega
  | succ f ih =>
    intro b e a l cap xs L w hfu hb hme he hl hs hE hB
    by_cases hem : e = m
    · obtain ⟨e1, e2⟩ := hvM_end (m := m) (b := b) (n := e - b) (by omega)
      rw [e1, e2] at hl ⊢
      by_cases hb0 : b = 0
      · rw [if_pos hb0] at hl ⊢
        simp only [so, fo, fu, List.length_nil, List.append_nil, st0, if_true]
        exact ron_zero gm gf gr gs g mb m b e hb0 hem first hfl _ L w hE hB
      · rw [if_neg hb0] at hl ⊢
        simp only [List.length_nil, Nat.zero_add] at hl
        subst hl
        obtain ⟨bb, oo, rfl⟩ := hs.place (by omega)
        simp only [so, fo, fu, List.length_nil, List.append_nil, st0]
        exact ron_part gm gf gr gs g mb m b e (by omega) hem first bb oo cap xs L w hs hE hB
    · obtain ⟨n, hn⟩ : ∃ n, n = e - b := ⟨_, rfl⟩
      rw [← hn] at hl ⊢
      have hen : e = b + n := by omega
      have h2 : 2 ≤ n := by omega
      have hn48 : n ≤ 281474976710656 := by omega
      obtain ⟨k, hk, hh⟩ : ∃ k, k = hf n ∧ 1 ≤ k ∧ k < n ∧ n ≤ 2 * k := ⟨_, rfl, hf_bd n h2 (by omega)⟩
      obtain ⟨mid, hmid⟩ : ∃ mid, mid = b + k := ⟨_, rfl⟩
      have hemi : ¬ ((e : Int) = (m : Int)) := by omega
      have hn63 : n ≤ 9223372036854775807 := by omega
      have hm1 : 1 ≤ m := by omega
      have hne : b + n ≠ m := by omega
      have hmn : m ≤ b + n := by omega
      have HW1 : Hid ((e : Int) - (b : Int) = (n : Int)) := hide (by omega)
      have HW2 : Hid ((b : Int) + (k : Int) = (mid : Int)) := hide (by omega)
      have HIH := hide ih
      have HFU := hide hfu
      have HE := hide hE
      have HB := hide hB
      have HEE := hide hen
      have HKF := hide hk
      have HMID := hide hmid
      have HKB := hide hh
      by_cases hc : m - 1 < b + k
      · obtain ⟨e1, e2⟩ := hvM_lo (m := m) (b := b) (n := n) hm1 hne h2 hn48 hb (by rw [← hk]; exact hc)
        rw [← hk] at e1 e2
        clear ih hE hB hen hk hmid hn hfu
        obtain ⟨A, hA⟩ : ∃ A, A = hvM m b k := ⟨_, rfl⟩
        obtain ⟨t, ht⟩ : ∃ t, t = ptM m b k := ⟨_, rfl⟩
        obtain ⟨q, hq⟩ : ∃ q, q = A.length := ⟨_, rfl⟩
        rw [← hA] at e1
        rw [← ht] at e2
        have hlen : (A ++ [(0 : Int)]).length = q + 1 := by rw [List.length_append, hq]; rfl
        rw [e1, e2, hlen] at hl ⊢
        have hlq : l = q + t + 1 := by omega
        subst hlq
        obtain ⟨bb, oo, rfl⟩ := hs.place (by omega)
        have hxd := dat_length hs.hlen (show q + t < q + t + 1 by omega)
        have hd0 : (st0 t first xs).length = 32 := st0_length hfl hs.hlen (by omega)
        have hd1 : isB (st0 t first xs) := st0_isB hfb hs.hbyte
        obtain ⟨DO, hDO⟩ : ∃ D, D = fo A ((xs.take (32 * (q + t))).drop (32 * t)) (st0 t first xs) q := ⟨_, rfl⟩
        obtain ⟨DN, hDN⟩ : ∃ D, D = fu A ((xs.take (32 * (q + t))).drop (32 * t)) (st0 t first xs) q := ⟨_, rfl⟩
        have HDOL : Hid (DO.length = 32) := hide (by rw [hDO]; exact fo_length hd0 _)
        have HDOB : Hid (isB DO) := hide (by rw [hDO]; exact fo_isB hd1 _)
        have HDNL : Hid (DN.length = 32) := hide (by rw [hDN]; exact fu_length hd0 _)
        have HDNB : Hid (isB DN) := hide (by rw [hDN]; exact fu_isB hd1 _)
        have HXD := hide hxd
        have HXB := hide (dat_isB hs.hbyte (q + t))
        have HXL : Hid ((u8s (dat xs (q + t))).length = 32) := hide (by rw [u8s_length, hxd])
        have HOL : Hid ((u8s DO).length = 32) := hide (by rw [u8s_length, HDOL.out])
        have HNL : Hid ((u8s DN).length = 32) := hide (by rw [u8s_length, HDNL.out])
        obtain ⟨f1, f2⟩ := step_lo A xs (st0 t first xs) t
        have f3 := so_lo A xs (st0 t first xs) t
        rw [← hq, ← hDO] at f1
        rw [← hq, ← hDN] at f2
        rw [← hq, ← hDN] at f3
        rw [f1, f2, f3]
        have HF65 : Hid ((1 :: (DN ++ dat xs (q + t))).length = 65) := hide (by rw [List.length_cons, List.length_append, HDNL.out, hxd])
        have HML : Hid ((u8s (nd DN (dat xs (q + t)))).length = 32) := hide (by rw [u8s_length, nd_length])
        have HQ := hide hq
        have HAA := hide hA
        have HPT := hide ht
        have HDO := hide hDO
        have HDN := hide hDN
        have HS := hide hs
        have HNN : Hid (mid - b = k) := hide (by have := HMID.out; omega)
        have hle : (m : Int) ≤ (b : Int) + (k : Int) := by have := HMID.out; omega
        have hle2 : m ≤ mid := by have := HMID.out; omega
        clear hl e1 e2 hlen hs hxd hd0 hd1 hDO hDN hq hA ht f1 f2 f3
        go_enter Tryd.func54, Tryd.ntmps54
        go_wp2_with (refine step_box (cs := spn b e) rfl rfl ?_)
        intro w1 g6 hr1 hl1 hb1
        have B1 := hide hb1
        have G61 := hide hr1
        go_wp2_with (refine step_alloc zD rfl ?_)
        intro w2 g8 hr2 hl2 hb2
        have B2 := hide (B1.out.trans (hb2.mono B1.out.size))
        have G82 := hide hr2
        have G62 := hide (G61.out.on hb2)
        have h8 : w.heap.size ≤ g8 := Nat.le_trans B1.out.size hl2
        go_wp2_with (refine step_alloc zD rfl ?_)
        intro y g9 hr3 hl3 hb3
        have BY := hide (B2.out.trans (hb3.mono B2.out.size))
        have G9 := hide hr3
        have G8 := hide (G82.out.on hb3)
        have G6 := hide (G62.out.on hb3)
        have h9 : w.heap.size ≤ g9 := Nat.le_trans B2.out.size hl3
        have h89 : g8 ≠ g9 := by have := G82.out.lt; omega
        have EY := hide (HE.out.below BY.out)
        have KY := hide (HB.out.on BY.out)
        have HH8 := hide h8
        have HH9 := hide h9
        have H89 := hide h89
        clear hr1 hl1 hb1 hr2 hl2 hb2 hr3 hl3 hb3 B1 G61 B2 G82 G62 h8 h9 h89
        have cb : y.cell? ⟨g6, 0, none⟩ = some (.int .i64 (b : Int)) := by rw [G6.out.cell]; rfl
        have ce : y.cell? ⟨g6, 1, none⟩ = some (.int .i64 (e : Int)) := by rw [G6.out.cell]; rfl
        have cm : y.cell? ⟨gm, 0, none⟩ = some (.int .i64 (m : Int)) := by rw [EY.out.m.cell]; rfl
        have cs4 : y.cell? ⟨gr, 0, none⟩ = some (.func (.func 54) #[] #[.pointer (some ⟨gm, 0, none⟩), .pointer (some ⟨gf, 0, none⟩), .pointer (some ⟨gr, 0, none⟩), .pointer (some ⟨gs, 0, none⟩)]) := by rw [EY.out.self.cell]; rfl
        go_wp2_with (first | (go_at_call 37; rw [HW1.out]; refine (split_any n _ h2 hn63).mono ?_; rintro r w' ⟨rfl, rfl⟩; rw [← HKF.out]) | (go_at_call 55; refine (cutLast_any bb oo (q + t) cap xs _ (HS.out.below BY.out)).mono ?_))
        rintro r w2 ⟨rfl, hb2⟩
        have B2 := hide (BY.out.trans (hb2.mono BY.out.size))
        have E2 := hide (EY.out.below hb2)
        have N82 := hide (G8.out.on hb2)
        have N92 := hide (G9.out.on hb2)
        have N62 := hide (G6.out.on hb2)
        clear hb2
        go_wp2_with (refine step_alloc zD rfl ?_)
        intro w3 g14 hr3 hl3 hb3
        have B3 := hide (B2.out.trans (hb3.mono B2.out.size))
        have h14 : w.heap.size ≤ g14 := Nat.le_trans B2.out.size hl3
        have h814 : g8 ≠ g14 := by have := N82.out.lt; omega
        have h914 : g9 ≠ g14 := by have := N92.out.lt; omega
        have h614 : g6 ≠ g14 := by have := N62.out.lt; omega
        have N83 := hide (N82.out.on hb3)
        have N93 := hide (N92.out.on hb3)
        have N63 := hide (N62.out.on hb3)
        go_wp2_with (refine step_storeA wD rfl rfl rfl hr3 HXL.out (One.u8 _) (by rw [u8s_length, zer_length]) ?_)
        intro z hrz hbtz
        have GX := hide hrz
        have M8 := hide (N83.out.but hbtz h814)
        have M9 := hide (N93.out.but hbtz h914)
        have M6 := hide (N63.out.but hbtz h614)
        have BZ := hide (B3.out.trans (hbtz.below h14))
        have EZ := hide (HE.out.below BZ.out)
        have KZ := hide (HB.out.on BZ.out)
        have H814 := hide h814
        have H914 := hide h914
        have zb : z.cell? ⟨g6, 0, none⟩ = some (.int .i64 (b : Int)) := by rw [M6.out.cell]; rfl
        have ze : z.cell? ⟨g6, 1, none⟩ = some (.int .i64 (e : Int)) := by rw [M6.out.cell]; rfl
        have zm : z.cell? ⟨gm, 0, none⟩ = some (.int .i64 (m : Int)) := by rw [EZ.out.m.cell]; rfl
        have zr : z.cell? ⟨gr, 0, none⟩ = some (.func (.func 54) #[] #[.pointer (some ⟨gm, 0, none⟩), .pointer (some ⟨gf, 0, none⟩), .pointer (some ⟨gr, 0, none⟩), .pointer (some ⟨gs, 0, none⟩)]) := by rw [EZ.out.self.cell]; rfl
        clear hr3 hl3 hb3 hrz hbtz h814 h914 h614 N82 N92 N62 N83 N93 N63 E2 B2 B3 cs4 cb ce cm
        go_wp2_with fail
        rw [HW2.out]
        refine (HIH.out b mid _ (q + t) cap (xs.take (32 * (q + t))) L _ (by have := HMID.out; have := HEE.out; have := HKB.out; have := HFU.out; omega) hb hle2 (by have := HMID.out; have := HEE.out; have := HKB.out; omega) (by rw [HNN.out, ← HAA.out, ← HPT.out, HQ.out]) ((HS.out.take (q + t) (by omega)).below BZ.out) EZ.out KZ.out).mono ?_
        rintro r v1 ⟨rfl, hB1, hbel1⟩
        rw [HNN.out, ← HAA.out, ← HPT.out, ← HQ.out, st0_take, ← HDO.out, ← HDN.out]
        rw [HNN.out, ← HAA.out, ← HPT.out, ← HQ.out, st0_take] at hB1
        have E1 := hide (EZ.out.bel KZ.out hbel1)
        have X1 := hide (KZ.out.blk hbel1 GX.out (by decide))
        have P8 := hide (KZ.out.blk hbel1 M8.out (by decide))
        have P9 := hide (KZ.out.blk hbel1 M9.out (by decide))
        have BL1 := hide ((Bel.of_below (g := g) (mb := mb) BZ.out).trans hbel1)
        have K1 := hide hB1
        clear hB1 hbel1 zb ze zm zr
        go_wp2_with (refine step_storeA wD rfl rfl rfl P8.out HOL.out (One.u8 _) (by rw [u8s_length, zer_length]) ?_)
        intro v2 hr2 hbt2
        have Q8 := hide hr2
        have P92 := hide (P9.out.but hbt2 (Ne.symm H89.out))
        have X2 := hide (X1.out.but hbt2 (Ne.symm H814.out))
        have K2 := hide (K1.out.but P8.out (by decide) (by decide) hbt2)
        have BL2 := hide (BL1.out.but' (n := 0) hbt2 HH8.out)
        have n1 : gm ≠ g8 := by have := HE.out.m.lt; have := HH8.out; omega
        have n2 : gf ≠ g8 := by have := HE.out.first.lt; have := HH8.out; omega
        have n3 : gr ≠ g8 := by have := HE.out.self.lt; have := HH8.out; omega
        have n4 : gs ≠ g8 := by have := HE.out.sum.lt; have := HH8.out; omega
        have KK2 := hide (E1.out.kt.chg (Chg.of_but hbt2) (by have := HE.out.kt.lt; have := HH8.out; omega))
        have E2 : Hid (EO v2 gm gf gr gs g m first) := hide ⟨E1.out.m.but hbt2 n1, E1.out.first.but hbt2 n2, E1.out.self.but hbt2 n3, E1.out.sum.but hbt2 n4, KK2.out⟩
        clear hr2 hbt2 n1 n2 n3 n4 KK2
        go_wp2_with (refine step_storeA wD rfl rfl rfl P92.out HNL.out (One.u8 _) (by rw [u8s_length, zer_length]) ?_)
        intro y3 hr3 hbt3
        have R9 := hide hr3
        have R8 := hide (Q8.out.but hbt3 H89.out)
        have X3 := hide (X2.out.but hbt3 (Ne.symm H914.out))
        have K3 := hide (K2.out.but P92.out (by decide) (by decide) hbt3)
        have BL3 := hide (BL2.out.but' (n := 0) hbt3 HH9.out)
        have n1 : gm ≠ g9 := by have := HE.out.m.lt; have := HH9.out; omega
        have n2 : gf ≠ g9 := by have := HE.out.first.lt; have := HH9.out; omega
        have n3 : gr ≠ g9 := by have := HE.out.self.lt; have := HH9.out; omega
        have n4 : gs ≠ g9 := by have := HE.out.sum.lt; have := HH9.out; omega
        have KK3 := hide (E2.out.kt.chg (Chg.of_but hbt3) (by have := HE.out.kt.lt; have := HH9.out; omega))
        have E3 : Hid (EO y3 gm gf gr gs g m first) := hide ⟨E2.out.m.but hbt3 n1, E2.out.first.but hbt3 n2, E2.out.self.but hbt3 n3, E2.out.sum.but hbt3 n4, KK3.out⟩
        clear hr3 hbt3 n1 n2 n3 n4 KK3
        go_wp2_with fail
        refine wp_region_noPanic ?_
        have Z0 := hide ((Below.refl y3.heap.size y3).drew)
        have hu := aD.und
        have HI1 : Hid ((Tryd.prog.info? 23).map (·.size) = some (u8s DO).length) := hide (by rw [wD.size, HOL.out])
        have HI2 : Hid ((Tryd.prog.info? 23).map (·.size) = some (u8s DN).length) := hide (by rw [wD.size, HNL.out])
        have HI3 : Hid ((Tryd.prog.info? 23).map (·.size) = some (u8s (dat xs (q + t))).length) := hide (by rw [wD.size, HXL.out])
        have HSS : Hid (∀ v, EO v gm gf gr gs g m first → Blk v g14 23 (u8s (dat xs (q + t))) → Blk v g8 23 (u8s DO) → Blk v g9 23 (u8s DN) → v.rangeAt g8 0 (u8s DO) ∧ v.rangeAt g9 0 (u8s DN) ∧ v.cell? ⟨gs, 0, none⟩ = some (fsum g) ∧ v.rangeAt g14 0 (u8s (dat xs (q + t)))) := hide (fun v h1 h2 h3 h4 => ⟨h3.range 0 _ (by simp), h4.range 0 _ (by simp), by rw [h1.sum.cell]; rfl, h2.range 0 _ (by simp)⟩)
        refine wp_region_2 (q1 := 6) (q2 := 7) (S1 := fun v : World => v.rangeAt g8 0 (u8s DO)) (S2 := fun v : World => v.rangeAt g9 0 (u8s DN) ∧ v.cell? ⟨gs, 0, none⟩ = some (fsum g) ∧ v.rangeAt g14 0 (u8s (dat xs (q + t)))) (by kernel_rfl) ?_
        have hHeld := HSS.out _ (E3.out.below Z0.out) (X3.out.on Z0.out) (R8.out.on Z0.out) (R9.out.on Z0.out)
        refine take21 0 61 (.agg (u8s DO).toArray) hHeld rfl rfl (by kernel_rfl) (by kernel_rfl) (by kernel_rfl) (by kernel_rfl) (by kernel_rfl) (by kernel_rfl) (by kernel_rfl) (fun _ _ _ h => h) (yieldsIf_load_mid (by rfl) _ _ rfl g8 0 rfl _ _ (fun v hv => hv) hu rfl HI1.out) ?_
        simp only [Act.put, List.setIfInBounds_toArray, List.set_cons_zero, List.set_cons_succ]
        refine take22 1 62 (fsum g) hHeld rfl rfl (by kernel_rfl) (by kernel_rfl) (by kernel_rfl) (by kernel_rfl) (by kernel_rfl) (by kernel_rfl) (by kernel_rfl) (fun _ _ _ h => h) (Or.inl ⟨by rfl, fun w hw => by have hw' : w.cell? ⟨gs, 0, none⟩ = some (fsum g) := (fun hw => hw.2.1) hw; go_simp⟩) ?_
        simp only [Act.put, List.setIfInBounds_toArray, List.set_cons_zero, List.set_cons_succ]
        refine take22 2 63 (.agg (u8s DN).toArray) hHeld rfl rfl (by kernel_rfl) (by kernel_rfl) (by kernel_rfl) (by kernel_rfl) (by kernel_rfl) (by kernel_rfl) (by kernel_rfl) (fun _ _ _ h => h) (yieldsIf_load_mid (by rfl) _ _ rfl g9 0 rfl _ _ (fun v hv => hv.1) hu rfl HI2.out) ?_
        simp only [Act.put, List.setIfInBounds_toArray, List.set_cons_zero, List.set_cons_succ]
        refine take22 3 64 (.agg (u8s (dat xs (q + t))).toArray) hHeld rfl rfl (by kernel_rfl) (by kernel_rfl) (by kernel_rfl) (by kernel_rfl) (by kernel_rfl) (by kernel_rfl) (by kernel_rfl) (fun _ _ _ h => h) (yieldsIf_load_mid (by rfl) _ _ rfl g14 0 rfl _ _ (fun v hv => hv.2.2) hu rfl HI3.out) ?_
        simp only [Act.put, List.setIfInBounds_toArray, List.set_cons_zero, List.set_cons_succ]
        have E4 := hide (E3.out.below Z0.out)
        have X4 := hide (X3.out.on Z0.out)
        have A4 := hide (R8.out.on Z0.out)
        have C4 := hide (R9.out.on Z0.out)
        have K4 := hide (K3.out.on Z0.out)
        have BL4 := hide (BL3.out.trans (Bel.of_below Z0.out))
        refine wpAny2_ready (rs := [4]) (by kernel_rfl) (by simp) (AllReady2.cons rfl (fun K hK => ?_) AllReady2.nil)
        rw [if_pos (by rfl)]
        go_simp
        refine (pre_any DN (dat xs (q + t)) _ HDNL.out HXD.out HDNB.out HXB.out).mono ?_
        rintro r v5 ⟨vx, rfl, hn2, hv2⟩
        obtain ⟨gx, cx, rfl, _, hsx, hux⟩ := hn2.slu (isB_one HDNB.out HXB.out) (by rw [HF65.out]; omega)
        have SX := hide hsx
        have UX := hide hux
        rw [HF65.out] at SX UX ⊢
        have E5 := hide (E4.out.below hv2)
        have X5 := hide (X4.out.on hv2)
        have A5 := hide (A4.out.on hv2)
        have C5 := hide (C4.out.on hv2)
        have K5 := hide (K4.out.on hv2)
        have BL5 := hide (BL4.out.trans (Bel.of_below hv2))
        clear hn2 hv2 hsx hux
        refine hK.out _ _ ⟨fun _ => (HSS.out _ E5.out X5.out A5.out C5.out).1, fun _ => (HSS.out _ E5.out X5.out A5.out C5.out).2⟩ ?_
        have hHeld := HSS.out _ E5.out X5.out A5.out C5.out
        clear hK K
        refine wpAny2_ready (rs := [5]) (by kernel_rfl) (by simp) (AllReady2.cons rfl (fun K hK => ?_) AllReady2.nil)
        rw [if_pos (by rfl)]
        try simp only [fsum]
        go_simp
        refine (bsum_any g mb _ _ _ _ _ _ K5.out SX.out UX.out E5.out.kt).mono ?_
        rintro r v6 ⟨rfl, hB3, hbel3⟩
        rw [show dg bL 0 (1 :: (DN ++ (dat xs (q + t)))) = nd DN (dat xs (q + t)) from rfl]
        have E6 := hide (E5.out.bel K5.out hbel3)
        have X6 := hide (K5.out.blk hbel3 X5.out (by decide))
        have A6 := hide (K5.out.blk hbel3 A5.out (by decide))
        have C6 := hide (K5.out.blk hbel3 C5.out (by decide))
        have BL6 := hide (BL5.out.trans hbel3)
        have K6 := hide hB3
        clear hB3 hbel3 SX UX
        refine hK.out _ _ ⟨fun _ => (HSS.out _ E6.out X6.out A6.out C6.out).1, fun _ => (HSS.out _ E6.out X6.out A6.out C6.out).2⟩ ?_
        have hHeld := HSS.out _ E6.out X6.out A6.out C6.out
        clear hK K
        refine wpAny2_ready (rs := [6]) (by kernel_rfl) (by simp) (AllReady2.cons rfl (fun K hK => ?_) AllReady2.nil)
        rw [if_pos (by rfl)]
        refine wp_storeG9 wD rfl rfl A6.out HOL.out (One.u8 _) (by rw [u8s_length, HDOL.out]) ?_
        intro v7 hr7 hbt7
        have ng : gs ≠ g8 := by have := HE.out.sum.lt; have := HH8.out; omega
        have C7 := hide (C6.out.but hbt7 (Ne.symm H89.out))
        have K7 := hide (K6.out.but A6.out (by decide) (by decide) hbt7)
        have BL7 := hide (BL6.out.but' (n := 0) hbt7 HH8.out)
        refine hK.out _ _ ⟨fun h => absurd h (by decide), fun _ => ⟨C7.out.range 0 _ (by simp), by rw [(E6.out.sum.but hbt7 ng).cell]; rfl, (X6.out.but hbt7 (Ne.symm H814.out)).range 0 _ (by simp)⟩⟩ ?_
        clear hK K
        simp only [Act.put]
        refine wpAny2_ready (rs := [7]) (by kernel_rfl) (by simp) (AllReady2.cons rfl (fun K hK => ?_) AllReady2.nil)
        rw [if_pos (by rfl)]
        refine wp_storeG9 wD rfl rfl C7.out HML.out (One.u8 _) (by rw [u8s_length, HDNL.out]) ?_
        intro v8 hr8 hbt8
        have R8f := hr7.but hbt8 H89.out
        have K8 := hide (K7.out.but C7.out (by decide) (by decide) hbt8)
        have BL8 := hide (BL7.out.but' (n := 0) hbt8 HH9.out)
        refine hK.out _ _ ⟨fun h => absurd h (by decide), fun h => absurd h (by decide)⟩ ?_
        clear hK K
        simp only [Act.put]
        refine wpAny2_done (by kernel_rfl) ?_ _
        refine NoPanic.normal ?_
        clear hHeld hu
        go_wp2
        refine bodyPost_ret (results_dd rfl wD wD _ _ rfl rfl R8f hr8 HOL.out HML.out) rfl ⟨rfl, ?_, BL8.out⟩
        have hfin := K8.out
        rw [← List.append_assoc]
        exact hfin
      · obtain ⟨e1, e2⟩ := hvM_hi (m := m) (b := b) (n := n) hm1 hne h2 hn48 hmn hb (by rw [← hk]; exact hc)
        rw [← hk, ← hmid] at e1 e2
        clear ih hE hB hen hk hmid hn hfu
        obtain ⟨A, hA⟩ : ∃ A, A = hvM m mid (n - k) := ⟨_, rfl⟩
        obtain ⟨t, ht⟩ : ∃ t, t = ptM m mid (n - k) := ⟨_, rfl⟩
        obtain ⟨q, hq⟩ : ∃ q, q = A.length := ⟨_, rfl⟩
        rw [← hA] at e1
        rw [← ht] at e2
        have hlen : (A ++ [(1 : Int)]).length = q + 1 := by rw [List.length_append, hq]; rfl
        rw [e1, e2, hlen] at hl ⊢
        have hlq : l = q + t + 1 := by omega
        subst hlq
        obtain ⟨bb, oo, rfl⟩ := hs.place (by omega)
        have hxd := dat_length hs.hlen (show q + t < q + t + 1 by omega)
        have hd0 : (st0 t first xs).length = 32 := st0_length hfl hs.hlen (by omega)
        have hd1 : isB (st0 t first xs) := st0_isB hfb hs.hbyte
        obtain ⟨DO, hDO⟩ : ∃ D, D = fo A ((xs.take (32 * (q + t))).drop (32 * t)) (st0 t first xs) q := ⟨_, rfl⟩
        obtain ⟨DN, hDN⟩ : ∃ D, D = fu A ((xs.take (32 * (q + t))).drop (32 * t)) (st0 t first xs) q := ⟨_, rfl⟩
        have HDOL : Hid (DO.length = 32) := hide (by rw [hDO]; exact fo_length hd0 _)
        have HDOB : Hid (isB DO) := hide (by rw [hDO]; exact fo_isB hd1 _)
        have HDNL : Hid (DN.length = 32) := hide (by rw [hDN]; exact fu_length hd0 _)
        have HDNB : Hid (isB DN) := hide (by rw [hDN]; exact fu_isB hd1 _)
        have HXD := hide hxd
        have HXB := hide (dat_isB hs.hbyte (q + t))
        have HXL : Hid ((u8s (dat xs (q + t))).length = 32) := hide (by rw [u8s_length, hxd])
        have HOL : Hid ((u8s DO).length = 32) := hide (by rw [u8s_length, HDOL.out])
        have HNL : Hid ((u8s DN).length = 32) := hide (by rw [u8s_length, HDNL.out])
        obtain ⟨f1, f2⟩ := step_hi A xs (st0 t first xs) t
        have f3 := so_hi A xs (st0 t first xs) t
        rw [← hq, ← hDO] at f1
        rw [← hq, ← hDN] at f2
        rw [← hq, ← hDO, ← hDN] at f3
        rw [f1, f2, f3]
        have HF65 : Hid ((1 :: (dat xs (q + t) ++ DN)).length = 65) := hide (by rw [List.length_cons, List.length_append, HDNL.out, hxd])
        have HO65 : Hid ((1 :: (dat xs (q + t) ++ DO)).length = 65) := hide (by rw [List.length_cons, List.length_append, HDOL.out, hxd])
        have HML : Hid ((u8s (nd (dat xs (q + t)) DN)).length = 32) := hide (by rw [u8s_length, nd_length])
        have HMO : Hid ((u8s (nd (dat xs (q + t)) DO)).length = 32) := hide (by rw [u8s_length, nd_length])
        have HQ := hide hq
        have HAA := hide hA
        have HPT := hide ht
        have HDO := hide hDO
        have HDN := hide hDN
        have HS := hide hs
        have HNN : Hid (e - mid = n - k) := hide (by have := HMID.out; have := HEE.out; omega)
        have hle : ¬ ((m : Int) ≤ (b : Int) + (k : Int)) := by have := HMID.out; omega
        have hle2 : mid < m := by have := HMID.out; omega
        clear hl e1 e2 hlen hs hxd hd0 hd1 hDO hDN hq hA ht f1 f2 f3
        go_enter Tryd.func54, Tryd.ntmps54
        go_wp2_with (refine step_box (cs := spn b e) rfl rfl ?_)
        intro w1 g6 hr1 hl1 hb1
        have B1 := hide hb1
        have G61 := hide hr1
        go_wp2_with (refine step_alloc zD rfl ?_)
        intro w2 g8 hr2 hl2 hb2
        have B2 := hide (B1.out.trans (hb2.mono B1.out.size))
        have G82 := hide hr2
        have G62 := hide (G61.out.on hb2)
        have h8 : w.heap.size ≤ g8 := Nat.le_trans B1.out.size hl2
        go_wp2_with (refine step_alloc zD rfl ?_)
        intro y g9 hr3 hl3 hb3
        have BY := hide (B2.out.trans (hb3.mono B2.out.size))
        have G9 := hide hr3
        have G8 := hide (G82.out.on hb3)
        have G6 := hide (G62.out.on hb3)
        have h9 : w.heap.size ≤ g9 := Nat.le_trans B2.out.size hl3
        have h89 : g8 ≠ g9 := by have := G82.out.lt; omega
        have EY := hide (HE.out.below BY.out)
        have KY := hide (HB.out.on BY.out)
        have HH8 := hide h8
        have HH9 := hide h9
        have H89 := hide h89
        clear hr1 hl1 hb1 hr2 hl2 hb2 hr3 hl3 hb3 B1 G61 B2 G82 G62 h8 h9 h89
        have cb : y.cell? ⟨g6, 0, none⟩ = some (.int .i64 (b : Int)) := by rw [G6.out.cell]; rfl
        have ce : y.cell? ⟨g6, 1, none⟩ = some (.int .i64 (e : Int)) := by rw [G6.out.cell]; rfl
        have cm : y.cell? ⟨gm, 0, none⟩ = some (.int .i64 (m : Int)) := by rw [EY.out.m.cell]; rfl
        have cs4 : y.cell? ⟨gr, 0, none⟩ = some (.func (.func 54) #[] #[.pointer (some ⟨gm, 0, none⟩), .pointer (some ⟨gf, 0, none⟩), .pointer (some ⟨gr, 0, none⟩), .pointer (some ⟨gs, 0, none⟩)]) := by rw [EY.out.self.cell]; rfl
        go_wp2_with (first | (go_at_call 37; rw [HW1.out]; refine (split_any n _ h2 hn63).mono ?_; rintro r w' ⟨rfl, rfl⟩; rw [← HKF.out]) | (go_at_call 55; refine (cutLast_any bb oo (q + t) cap xs _ (HS.out.below BY.out)).mono ?_))
        rintro r w2 ⟨rfl, hb2⟩
        have B2 := hide (BY.out.trans (hb2.mono BY.out.size))
        have E2 := hide (EY.out.below hb2)
        have N82 := hide (G8.out.on hb2)
        have N92 := hide (G9.out.on hb2)
        have N62 := hide (G6.out.on hb2)
        clear hb2
        go_wp2_with (refine step_alloc zD rfl ?_)
        intro w3 g14 hr3 hl3 hb3
        have B3 := hide (B2.out.trans (hb3.mono B2.out.size))
        have h14 : w.heap.size ≤ g14 := Nat.le_trans B2.out.size hl3
        have h814 : g8 ≠ g14 := by have := N82.out.lt; omega
        have h914 : g9 ≠ g14 := by have := N92.out.lt; omega
        have h614 : g6 ≠ g14 := by have := N62.out.lt; omega
        have N83 := hide (N82.out.on hb3)
        have N93 := hide (N92.out.on hb3)
        have N63 := hide (N62.out.on hb3)
        go_wp2_with (refine step_storeA wD rfl rfl rfl hr3 HXL.out (One.u8 _) (by rw [u8s_length, zer_length]) ?_)
        intro z hrz hbtz
        have GX := hide hrz
        have M8 := hide (N83.out.but hbtz h814)
        have M9 := hide (N93.out.but hbtz h914)
        have M6 := hide (N63.out.but hbtz h614)
        have BZ := hide (B3.out.trans (hbtz.below h14))
        have EZ := hide (HE.out.below BZ.out)
        have KZ := hide (HB.out.on BZ.out)
        have H814 := hide h814
        have H914 := hide h914
        have zb : z.cell? ⟨g6, 0, none⟩ = some (.int .i64 (b : Int)) := by rw [M6.out.cell]; rfl
        have ze : z.cell? ⟨g6, 1, none⟩ = some (.int .i64 (e : Int)) := by rw [M6.out.cell]; rfl
        have zm : z.cell? ⟨gm, 0, none⟩ = some (.int .i64 (m : Int)) := by rw [EZ.out.m.cell]; rfl
        have zr : z.cell? ⟨gr, 0, none⟩ = some (.func (.func 54) #[] #[.pointer (some ⟨gm, 0, none⟩), .pointer (some ⟨gf, 0, none⟩), .pointer (some ⟨gr, 0, none⟩), .pointer (some ⟨gs, 0, none⟩)]) := by rw [EZ.out.self.cell]; rfl
        clear hr3 hl3 hb3 hrz hbtz h814 h914 h614 N82 N92 N62 N83 N93 N63 E2 B2 B3 cs4 cb ce cm
        go_wp2_with fail
        rw [HW2.out]
        refine (HIH.out mid e _ (q + t) cap (xs.take (32 * (q + t))) L _ (by have := HMID.out; have := HEE.out; have := HKB.out; have := HFU.out; omega) hle2 hme (by have := HMID.out; have := HEE.out; have := HKB.out; omega) (by rw [HNN.out, ← HAA.out, ← HPT.out, HQ.out]) ((HS.out.take (q + t) (by omega)).below BZ.out) EZ.out KZ.out).mono ?_
        rintro r v1 ⟨rfl, hB1, hbel1⟩
        rw [HNN.out, ← HAA.out, ← HPT.out, ← HQ.out, st0_take, ← HDO.out, ← HDN.out]
        rw [HNN.out, ← HAA.out, ← HPT.out, ← HQ.out, st0_take] at hB1
        have E1 := hide (EZ.out.bel KZ.out hbel1)
        have X1 := hide (KZ.out.blk hbel1 GX.out (by decide))
        have P8 := hide (KZ.out.blk hbel1 M8.out (by decide))
        have P9 := hide (KZ.out.blk hbel1 M9.out (by decide))
        have BL1 := hide ((Bel.of_below (g := g) (mb := mb) BZ.out).trans hbel1)
        have K1 := hide hB1
        clear hB1 hbel1 zb ze zm zr
        go_wp2_with (refine step_storeA wD rfl rfl rfl P8.out HOL.out (One.u8 _) (by rw [u8s_length, zer_length]) ?_)
        intro v2 hr2 hbt2
        have Q8 := hide hr2
        have P92 := hide (P9.out.but hbt2 (Ne.symm H89.out))
        have X2 := hide (X1.out.but hbt2 (Ne.symm H814.out))
        have K2 := hide (K1.out.but P8.out (by decide) (by decide) hbt2)
        have BL2 := hide (BL1.out.but' (n := 0) hbt2 HH8.out)
        have n1 : gm ≠ g8 := by have := HE.out.m.lt; have := HH8.out; omega
        have n2 : gf ≠ g8 := by have := HE.out.first.lt; have := HH8.out; omega
        have n3 : gr ≠ g8 := by have := HE.out.self.lt; have := HH8.out; omega
        have n4 : gs ≠ g8 := by have := HE.out.sum.lt; have := HH8.out; omega
        have KK2 := hide (E1.out.kt.chg (Chg.of_but hbt2) (by have := HE.out.kt.lt; have := HH8.out; omega))
        have E2 : Hid (EO v2 gm gf gr gs g m first) := hide ⟨E1.out.m.but hbt2 n1, E1.out.first.but hbt2 n2, E1.out.self.but hbt2 n3, E1.out.sum.but hbt2 n4, KK2.out⟩
        clear hr2 hbt2 n1 n2 n3 n4 KK2
        go_wp2_with (refine step_storeA wD rfl rfl rfl P92.out HNL.out (One.u8 _) (by rw [u8s_length, zer_length]) ?_)
        intro y3 hr3 hbt3
        have R9 := hide hr3
        have R8 := hide (Q8.out.but hbt3 H89.out)
        have X3 := hide (X2.out.but hbt3 (Ne.symm H914.out))
        have K3 := hide (K2.out.but P92.out (by decide) (by decide) hbt3)
        have BL3 := hide (BL2.out.but' (n := 0) hbt3 HH9.out)
        have n1 : gm ≠ g9 := by have := HE.out.m.lt; have := HH9.out; omega
        have n2 : gf ≠ g9 := by have := HE.out.first.lt; have := HH9.out; omega
        have n3 : gr ≠ g9 := by have := HE.out.self.lt; have := HH9.out; omega
        have n4 : gs ≠ g9 := by have := HE.out.sum.lt; have := HH9.out; omega
        have KK3 := hide (E2.out.kt.chg (Chg.of_but hbt3) (by have := HE.out.kt.lt; have := HH9.out; omega))
        have E3 : Hid (EO y3 gm gf gr gs g m first) := hide ⟨E2.out.m.but hbt3 n1, E2.out.first.but hbt3 n2, E2.out.self.but hbt3 n3, E2.out.sum.but hbt3 n4, KK3.out⟩
        clear hr3 hbt3 n1 n2 n3 n4 KK3
        go_wp2_with fail
        refine wp_region_noPanic ?_
        have Z0 := hide ((Below.refl y3.heap.size y3).drew)
        have hu := aD.und
        have HI1 : Hid ((Tryd.prog.info? 23).map (·.size) = some (u8s DO).length) := hide (by rw [wD.size, HOL.out])
        have HI2 : Hid ((Tryd.prog.info? 23).map (·.size) = some (u8s DN).length) := hide (by rw [wD.size, HNL.out])
        have HI3 : Hid ((Tryd.prog.info? 23).map (·.size) = some (u8s (dat xs (q + t))).length) := hide (by rw [wD.size, HXL.out])
        have HSS : Hid (∀ v, EO v gm gf gr gs g m first → Blk v g14 23 (u8s (dat xs (q + t))) → Blk v g8 23 (u8s DO) → Blk v g9 23 (u8s DN) → (v.rangeAt g8 0 (u8s DO) ∧ v.cell? ⟨gs, 0, none⟩ = some (fsum g) ∧ v.rangeAt g14 0 (u8s (dat xs (q + t)))) ∧ v.rangeAt g9 0 (u8s DN) ∧ v.cell? ⟨gs, 0, none⟩ = some (fsum g) ∧ v.rangeAt g14 0 (u8s (dat xs (q + t)))) := hide (fun v h1 h2 h3 h4 => ⟨⟨h3.range 0 _ (by simp), by rw [h1.sum.cell]; rfl, h2.range 0 _ (by simp)⟩, h4.range 0 _ (by simp), by rw [h1.sum.cell]; rfl, h2.range 0 _ (by simp)⟩)
        refine wp_region_2 (q1 := 10) (q2 := 11) (S1 := fun v : World => v.rangeAt g8 0 (u8s DO) ∧ v.cell? ⟨gs, 0, none⟩ = some (fsum g) ∧ v.rangeAt g14 0 (u8s (dat xs (q + t)))) (S2 := fun v : World => v.rangeAt g9 0 (u8s DN) ∧ v.cell? ⟨gs, 0, none⟩ = some (fsum g) ∧ v.rangeAt g14 0 (u8s (dat xs (q + t)))) (by kernel_rfl) ?_
        have hHeld := HSS.out _ (E3.out.below Z0.out) (X3.out.on Z0.out) (R8.out.on Z0.out) (R9.out.on Z0.out)
        refine take21 0 77 (fsum g) hHeld rfl rfl (by kernel_rfl) (by kernel_rfl) (by kernel_rfl) (by kernel_rfl) (by kernel_rfl) (by kernel_rfl) (by kernel_rfl) (fun _ _ _ h => h) (Or.inl ⟨by rfl, fun w hw => by have hw' : w.cell? ⟨gs, 0, none⟩ = some (fsum g) := (fun hw => hw.2.1) hw; go_simp⟩) ?_
        simp only [Act.put, List.setIfInBounds_toArray, List.set_cons_zero, List.set_cons_succ]
        refine take21 1 78 (.agg (u8s (dat xs (q + t))).toArray) hHeld rfl rfl (by kernel_rfl) (by kernel_rfl) (by kernel_rfl) (by kernel_rfl) (by kernel_rfl) (by kernel_rfl) (by kernel_rfl) (fun _ _ _ h => h) (yieldsIf_load_mid (by rfl) _ _ rfl g14 0 rfl _ _ (fun v hv => hv.2.2) hu rfl HI3.out) ?_
        simp only [Act.put, List.setIfInBounds_toArray, List.set_cons_zero, List.set_cons_succ]
        refine take21 2 79 (.agg (u8s DO).toArray) hHeld rfl rfl (by kernel_rfl) (by kernel_rfl) (by kernel_rfl) (by kernel_rfl) (by kernel_rfl) (by kernel_rfl) (by kernel_rfl) (fun _ _ _ h => h) (yieldsIf_load_mid (by rfl) _ _ rfl g8 0 rfl _ _ (fun v hv => hv.1) hu rfl HI1.out) ?_
        simp only [Act.put, List.setIfInBounds_toArray, List.set_cons_zero, List.set_cons_succ]
        refine take22 5 82 (fsum g) hHeld rfl rfl (by kernel_rfl) (by kernel_rfl) (by kernel_rfl) (by kernel_rfl) (by kernel_rfl) (by kernel_rfl) (by kernel_rfl) (fun _ _ _ h => h) (Or.inl ⟨by rfl, fun w hw => by have hw' : w.cell? ⟨gs, 0, none⟩ = some (fsum g) := (fun hw => hw.2.1) hw; go_simp⟩) ?_
        simp only [Act.put, List.setIfInBounds_toArray, List.set_cons_zero, List.set_cons_succ]
        refine take22 6 83 (.agg (u8s (dat xs (q + t))).toArray) hHeld rfl rfl (by kernel_rfl) (by kernel_rfl) (by kernel_rfl) (by kernel_rfl) (by kernel_rfl) (by kernel_rfl) (by kernel_rfl) (fun _ _ _ h => h) (yieldsIf_load_mid (by rfl) _ _ rfl g14 0 rfl _ _ (fun v hv => hv.2.2) hu rfl HI3.out) ?_
        simp only [Act.put, List.setIfInBounds_toArray, List.set_cons_zero, List.set_cons_succ]
        refine take22 7 84 (.agg (u8s DN).toArray) hHeld rfl rfl (by kernel_rfl) (by kernel_rfl) (by kernel_rfl) (by kernel_rfl) (by kernel_rfl) (by kernel_rfl) (by kernel_rfl) (fun _ _ _ h => h) (yieldsIf_load_mid (by rfl) _ _ rfl g9 0 rfl _ _ (fun v hv => hv.1) hu rfl HI2.out) ?_
        simp only [Act.put, List.setIfInBounds_toArray, List.set_cons_zero, List.set_cons_succ]
        have E4 := hide (E3.out.below Z0.out)
        have X4 := hide (X3.out.on Z0.out)
        have A4 := hide (R8.out.on Z0.out)
        have C4 := hide (R9.out.on Z0.out)
        have K4 := hide (K3.out.on Z0.out)
        have BL4 := hide (BL3.out.trans (Bel.of_below Z0.out))
        refine wpAny2_ready (rs := [3]) (by kernel_rfl) (by simp) (AllReady2.cons rfl (fun K hK => ?_) AllReady2.nil)
        rw [if_pos (by rfl)]
        go_simp
        refine (pre_any (dat xs (q + t)) DO _ HXD.out HDOL.out HXB.out HDOB.out).mono ?_
        rintro r v5 ⟨vx, rfl, hn2, hv2⟩
        obtain ⟨gx, cx, rfl, _, hsx, hux⟩ := hn2.slu (isB_one HXB.out HDOB.out) (by rw [HO65.out]; omega)
        have SX := hide hsx
        have UX := hide hux
        rw [HO65.out] at SX UX ⊢
        have E5 := hide (E4.out.below hv2)
        have X5 := hide (X4.out.on hv2)
        have A5 := hide (A4.out.on hv2)
        have C5 := hide (C4.out.on hv2)
        have K5 := hide (K4.out.on hv2)
        have BL5 := hide (BL4.out.trans (Bel.of_below hv2))
        clear hn2 hv2 hsx hux
        refine hK.out _ _ ⟨fun _ => (HSS.out _ E5.out X5.out A5.out C5.out).1, fun _ => (HSS.out _ E5.out X5.out A5.out C5.out).2⟩ ?_
        have hHeld := HSS.out _ E5.out X5.out A5.out C5.out
        clear hK K
        refine wpAny2_ready (rs := [4]) (by kernel_rfl) (by simp) (AllReady2.cons rfl (fun K hK => ?_) AllReady2.nil)
        rw [if_pos (by rfl)]
        try simp only [fsum]
        go_simp
        refine (bsum_any g mb _ _ _ _ _ _ K5.out SX.out UX.out E5.out.kt).mono ?_
        rintro r v6 ⟨rfl, hB3, hbel3⟩
        rw [show dg bL 0 (1 :: ((dat xs (q + t)) ++ DO)) = nd (dat xs (q + t)) DO from rfl]
        have E6 := hide (E5.out.bel K5.out hbel3)
        have X6 := hide (K5.out.blk hbel3 X5.out (by decide))
        have A6 := hide (K5.out.blk hbel3 A5.out (by decide))
        have C6 := hide (K5.out.blk hbel3 C5.out (by decide))
        have BL6 := hide (BL5.out.trans hbel3)
        have K6 := hide hB3
        clear hB3 hbel3 SX UX
        refine hK.out _ _ ⟨fun _ => (HSS.out _ E6.out X6.out A6.out C6.out).1, fun _ => (HSS.out _ E6.out X6.out A6.out C6.out).2⟩ ?_
        have hHeld := HSS.out _ E6.out X6.out A6.out C6.out
        clear hK K
        refine wpAny2_ready (rs := [8]) (by kernel_rfl) (by simp) (AllReady2.cons rfl (fun K hK => ?_) AllReady2.nil)
        rw [if_pos (by rfl)]
        go_simp
        refine (pre_any (dat xs (q + t)) DN _ HXD.out HDNL.out HXB.out HDNB.out).mono ?_
        rintro r v7 ⟨vx, rfl, hn2, hv2⟩
        obtain ⟨gx, cx, rfl, _, hsx, hux⟩ := hn2.slu (isB_one HXB.out HDNB.out) (by rw [HF65.out]; omega)
        have SX := hide hsx
        have UX := hide hux
        rw [HF65.out] at SX UX ⊢
        have E7 := hide (E6.out.below hv2)
        have X7 := hide (X6.out.on hv2)
        have A7 := hide (A6.out.on hv2)
        have C7 := hide (C6.out.on hv2)
        have K7 := hide (K6.out.on hv2)
        have BL7 := hide (BL6.out.trans (Bel.of_below hv2))
        clear hn2 hv2 hsx hux
        refine hK.out _ _ ⟨fun _ => (HSS.out _ E7.out X7.out A7.out C7.out).1, fun _ => (HSS.out _ E7.out X7.out A7.out C7.out).2⟩ ?_
        have hHeld := HSS.out _ E7.out X7.out A7.out C7.out
        clear hK K
        refine wpAny2_ready (rs := [9]) (by kernel_rfl) (by simp) (AllReady2.cons rfl (fun K hK => ?_) AllReady2.nil)
        rw [if_pos (by rfl)]
        try simp only [fsum]
        go_simp
        refine (bsum_any g mb _ _ _ _ _ _ K7.out SX.out UX.out E7.out.kt).mono ?_
        rintro r v8 ⟨rfl, hB3, hbel3⟩
        rw [show dg bL 0 (1 :: ((dat xs (q + t)) ++ DN)) = nd (dat xs (q + t)) DN from rfl]
        have E8 := hide (E7.out.bel K7.out hbel3)
        have X8 := hide (K7.out.blk hbel3 X7.out (by decide))
        have A8 := hide (K7.out.blk hbel3 A7.out (by decide))
        have C8 := hide (K7.out.blk hbel3 C7.out (by decide))
        have BL8 := hide (BL7.out.trans hbel3)
        have K8 := hide hB3
        clear hB3 hbel3 SX UX
        refine hK.out _ _ ⟨fun _ => (HSS.out _ E8.out X8.out A8.out C8.out).1, fun _ => (HSS.out _ E8.out X8.out A8.out C8.out).2⟩ ?_
        have hHeld := HSS.out _ E8.out X8.out A8.out C8.out
        clear hK K
        refine wpAny2_ready (rs := [10]) (by kernel_rfl) (by simp) (AllReady2.cons rfl (fun K hK => ?_) AllReady2.nil)
        rw [if_pos (by rfl)]
        refine wp_storeG9 wD rfl rfl A8.out HMO.out (One.u8 _) (by rw [u8s_length, HDOL.out]) ?_
        intro v9 hr9 hbt9
        have ng : gs ≠ g8 := by have := HE.out.sum.lt; have := HH8.out; omega
        have C9 := hide (C8.out.but hbt9 (Ne.symm H89.out))
        have K9 := hide (K8.out.but A8.out (by decide) (by decide) hbt9)
        have BL9 := hide (BL8.out.but' (n := 0) hbt9 HH8.out)
        refine hK.out _ _ ⟨fun h => absurd h (by decide), fun _ => ⟨C9.out.range 0 _ (by simp), by rw [(E8.out.sum.but hbt9 ng).cell]; rfl, (X8.out.but hbt9 (Ne.symm H814.out)).range 0 _ (by simp)⟩⟩ ?_
        clear hK K
        simp only [Act.put]
        refine wpAny2_ready (rs := [11]) (by kernel_rfl) (by simp) (AllReady2.cons rfl (fun K hK => ?_) AllReady2.nil)
        rw [if_pos (by rfl)]
        refine wp_storeG9 wD rfl rfl C9.out HML.out (One.u8 _) (by rw [u8s_length, HDNL.out]) ?_
        intro v10 hr10 hbt10
        have R8f := hr9.but hbt10 H89.out
        have K10 := hide (K9.out.but C9.out (by decide) (by decide) hbt10)
        have BL10 := hide (BL9.out.but' (n := 0) hbt10 HH9.out)
        refine hK.out _ _ ⟨fun h => absurd h (by decide), fun h => absurd h (by decide)⟩ ?_
        clear hK K
        simp only [Act.put]
        refine wpAny2_done (by kernel_rfl) ?_ _
        refine NoPanic.normal ?_
        clear hHeld hu
        go_wp2
        refine bodyPost_ret (results_dd rfl wD wD _ _ rfl rfl R8f hr10 HMO.out HML.out) rfl ⟨rfl, ?_, BL10.out⟩
        have hfin := K10.out
        simpa using hfin

end Go.Proofs.YtconeobaohmbnaaDoor

/-
  rehashConsistency itself.
-/
namespace Go.Proofs.YtconeobaohmbnaaDoor
open Go.RowKit
set_option linter.unusedVariables false

theorem zF98 : Zeroed 98 [.nilFunc] := fun _ _ _ _ _ _ _ => by kernel_rfl
theorem build_69 (n : Int) (v : World) : (Instr.build 69 #[(1, .int .i64 n)]).run Tryd.prog v = .ok (.agg #[.int .i64 0, .int .i64 n]) v := by kernel_rfl
set_option maxRecDepth 100000 in
set_option maxHeartbeats 1000000 in
theorem rcon_any (g mb : Nat) (first : List Int) (hfl : first.length = 32) (hfb : isB first) (m n : Nat) (a : Option Addr) (l cap : Nat) (xs : List Int) (L : List (List Int)) (w : World) (hm : 1 ≤ m) (hmn : m ≤ n) (hn : n ≤ 281474976710656) (hl : l = (hvM m 0 n).length + ptM m 0 n) (hs : Ds w a l cap xs) (hB : Bk w g mb L) (hk : KT w) :
    Calls Tryd.prog 32 #[fsum g, .agg (u8s first).toArray, .int .i64 (m : Int), .int .i64 (n : Int), .slice a l cap] w
      fun r w' => (∃ v, r = .returned v) ∧ Bk w' g mb (L ++ so (hvM m 0 n) (xs.drop (32 * ptM m 0 n)) (st0 (ptM m 0 n) first xs) (hvM m 0 n).length) ∧ Bel g mb w w' := by
  have HS := hide hs
  have HB := hide hB
  have HK := hide hk
  have hd0 : (st0 (ptM m 0 n) first xs).length = 32 := st0_length hfl hs.hlen (by omega)
  obtain ⟨DO, HDO⟩ : ∃ D, Hid (D = fo (hvM m 0 n) (xs.drop (32 * ptM m 0 n)) (st0 (ptM m 0 n) first xs) (hvM m 0 n).length) := ⟨_, hide rfl⟩
  obtain ⟨DN, HDN⟩ : ∃ D, Hid (D = fu (hvM m 0 n) (xs.drop (32 * ptM m 0 n)) (st0 (ptM m 0 n) first xs) (hvM m 0 n).length) := ⟨_, hide rfl⟩
  have HOL := hide (show (u8s DO).length = 32 by rw [u8s_length, HDO.out]; exact fo_length hd0 _)
  have HNL := hide (show (u8s DN).length = 32 by rw [u8s_length, HDN.out]; exact fu_length hd0 _)
  have HL := hide hl
  clear hs hB hk hl hd0
  simp only [fsum]
  go_enter Tryd.func32, Tryd.ntmps32
  go_wp2_with (refine step_boxF rfl rfl ?_)
  intro w1 gs hr1 hl1 hb1
  have S1 := hide hr1
  have B1 := hide hb1
  go_wp2_with (refine step_box (cs := u8s first) rfl rfl ?_)
  intro w2 gf hr2 hl2 hb2
  have F2 := hide hr2
  have S2 := hide (S1.out.on hb2)
  have B2 := hide (B1.out.trans (hb2.mono B1.out.size))
  go_wp2_with (refine step_boxI rfl rfl ?_)
  intro w3 gm hr3 hl3 hb3
  have M3 := hide hr3
  have F3 := hide (F2.out.on hb3)
  have S3 := hide (S2.out.on hb3)
  have B3 := hide (B2.out.trans (hb3.mono B2.out.size))
  clear hr1 hl1 hb1 hr2 hl2 hb2 hr3 hl3 hb3
  go_wp2_with (refine step_alloc zD rfl ?_)
  intro w4 g10 hr4 hl4 hb4
  have T4 := hide hr4
  have M4 := hide (M3.out.on hb4)
  have F4 := hide (F3.out.on hb4)
  have S4 := hide (S3.out.on hb4)
  have B4 := hide (B3.out.trans (hb4.mono B3.out.size))
  have h10 : w.heap.size ≤ g10 := Nat.le_trans B3.out.size hl4
  go_wp2_with (refine step_alloc zD rfl ?_)
  intro w5 g11 hr5 hl5 hb5
  have U5 := hide hr5
  have T5 := hide (T4.out.on hb5)
  have M5 := hide (M4.out.on hb5)
  have F5 := hide (F4.out.on hb5)
  have S5 := hide (S4.out.on hb5)
  have B5 := hide (B4.out.trans (hb5.mono B4.out.size))
  have h11 : w.heap.size ≤ g11 := Nat.le_trans B4.out.size hl5
  have n1011 : g10 ≠ g11 := by have := T4.out.lt; omega
  clear hr4 hl4 hb4 hr5 hl5 hb5
  go_wp2_with (refine step_alloc zF98 rfl ?_)
  intro w6 gr hr6 hl6 hb6
  have R6 := hide hr6
  have U6 := hide (U5.out.on hb6)
  have T6 := hide (T5.out.on hb6)
  have M6 := hide (M5.out.on hb6)
  have F6 := hide (F5.out.on hb6)
  have S6 := hide (S5.out.on hb6)
  have B6 := hide (B5.out.trans (hb6.mono B5.out.size))
  have n1 : gm ≠ gr := by have := M5.out.lt; omega
  have n2 : gf ≠ gr := by have := F5.out.lt; omega
  have n3 : gs ≠ gr := by have := S5.out.lt; omega
  have n4 : g10 ≠ gr := by have := T5.out.lt; omega
  have n5 : g11 ≠ gr := by have := U5.out.lt; omega
  have h12 : w.heap.size ≤ gr := Nat.le_trans B5.out.size hl6
  have hc5 : w6.cell? ⟨gr, 0, none⟩ = some .nilFunc := by rw [R6.out.cell]; rfl
  have hf5 := R6.out.free 0
  have hg6 := R6.out.set 0 (.func (.func 54) #[] #[.pointer (some ⟨gm, 0, none⟩), .pointer (some ⟨gf, 0, none⟩), .pointer (some ⟨gr, 0, none⟩), .pointer (some ⟨gs, 0, none⟩)])
  have hbut6 := But.setCell w6 gr 0 (.func (.func 54) #[] #[.pointer (some ⟨gm, 0, none⟩), .pointer (some ⟨gf, 0, none⟩), .pointer (some ⟨gr, 0, none⟩), .pointer (some ⟨gs, 0, none⟩)])
  have hbuild := build_69 (n : Int)
  clear hr6 hl6 hb6
  go_wp2_with fail
  clear hc5 hf5 hbuild
  generalize w6.setCell ⟨gr, 0, none⟩ (.func (.func 54) #[] #[.pointer (some ⟨gm, 0, none⟩), .pointer (some ⟨gf, 0, none⟩), .pointer (some ⟨gr, 0, none⟩), .pointer (some ⟨gs, 0, none⟩)]) = z at hg6 hbut6 ⊢
  have BZ := hide (B6.out.trans (hbut6.below h12))
  have EZ : Hid (EO z gm gf gr gs g m first) := hide ⟨M6.out.but hbut6 n1, F6.out.but hbut6 n2, hg6, S6.out.but hbut6 n3, HK.out.below BZ.out HK.out.lt⟩
  have KZ := hide (HB.out.on BZ.out)
  have T7 := hide (T6.out.but hbut6 n4)
  have U7 := hide (U6.out.but hbut6 n5)
  clear hg6 hbut6 n1 n2 n3 n4 n5
  have hrec := ron_any gm gf gr gs g mb m first hfl hfb n 0 n a l cap xs L z (by omega) (by omega) hmn hn (by rw [Nat.sub_zero]; exact HL.out) (HS.out.below BZ.out) EZ.out KZ.out
  rw [Nat.sub_zero] at hrec
  refine hrec.mono ?_
  clear hrec
  rintro r v1 ⟨rfl, hB1, hbel1⟩
  rw [← HDO.out, ← HDN.out]
  have T8 := hide (KZ.out.blk hbel1 T7.out (by decide))
  have U8 := hide (KZ.out.blk hbel1 U7.out (by decide))
  have BL := hide ((Bel.of_below (g := g) (mb := mb) BZ.out).trans hbel1)
  have K1 := hide hB1
  clear hB1 hbel1
  go_wp2_with (refine step_storeA wD rfl rfl rfl T8.out HOL.out (One.u8 _) (by rw [u8s_length, zer_length]) ?_)
  intro v2 hr2 hbt2
  have K2 := hide (K1.out.but T8.out (by decide) (by decide) hbt2)
  have U9 := hide (U8.out.but hbt2 (Ne.symm n1011))
  have BL2 := hide (BL.out.but' (n := 0) hbt2 h10)
  go_wp2_with (refine step_storeA wD rfl rfl rfl U9.out HNL.out (One.u8 _) (by rw [u8s_length, zer_length]) ?_)
  intro v3 hr3 hbt3
  have K3 := hide (K2.out.but U9.out (by decide) (by decide) hbt3)
  go_wp2
  refine bodyPost_ret (results_dd rfl wD wD _ _ rfl rfl (hr2.but hbt3 n1011) hr3 HOL.out HNL.out) rfl ⟨⟨_, rfl⟩, K3.out, BL2.out.but' (n := 0) hbt3 h11⟩

end Go.Proofs.YtconeobaohmbnaaDoor

/-
  collision, with the closure of Extract; Extract.
-/
namespace Go.Proofs.YtconeobaohmbnaaDoor
open Go.RowKit
set_option linter.unusedVariables false

theorem run_makeMp (w : World) : (Instr.makeMap 95 none).run Tryd.prog w = .ok (.map (some w.heap.size)) (w.alloc (.map #[] 0)) := by kernel_rfl
theorem build_book (mb : Nat) (v : World) : (Instr.build 97 #[(0, .map (some mb))]).run Tryd.prog v = .ok (.agg #[.map (some mb), .slice none 0 0, .slice none 0 0, .bool false]) v := by kernel_rfl
/-- What is told of the strings Lst: nothing, where no two unlike ones have one digest; two such. -/
structure Told (w : World) (Lst : List (List Int)) (av bv : Value) (fd : Bool) : Prop where
  no : fd = false → av = .slice none 0 0 ∧ bv = .slice none 0 0 ∧ OneEach (fun s => s ∈ Lst)
  yes : fd = true → ∃ a l c A b m d B, av = .slice a l c ∧ bv = .slice b m d ∧ Sl w a l c A ∧ Sl w b m d B ∧ A ≠ B ∧ dg bL 0 A = dg bL 0 B
theorem BkD.told {w : World} {g mb : Nat} {L F : List (List Int)} {av bv : Value} {fd : Bool} {es : Array MapEntry} {clock : Nat} (h : BkD w g mb L F av bv fd es clock) : Told w L av bv fd := by
  refine ⟨fun hf => ?_, fun hf => ?_⟩
  · obtain ⟨h1, h2, h3⟩ := h.no hf
    exact ⟨h1, h2, fun s t hs ht e => h.one s t (h3 s hs) (h3 t ht) e⟩
  · obtain ⟨a, l, c, A, b, m, d, B, h1, h2, h3, h4, h5, h6, _⟩ := h.yes hf
    exact ⟨a, l, c, A, b, m, d, B, h1, h2, h3, h4, h5, h6⟩
theorem Told.below {w w' : World} {Lst : List (List Int)} {av bv : Value} {fd : Bool} (h : Told w Lst av bv fd) (hb : Below w.heap.size w w') : Told w' Lst av bv fd :=
  ⟨h.no, fun hf => by
    obtain ⟨a, l, c, A, b, m, d, B, h1, h2, h3, h4, h5, h6⟩ := h.yes hf
    exact ⟨a, l, c, A, b, m, d, B, h1, h2, h3.below hb, h4.below hb, h5, h6⟩⟩

set_option maxRecDepth 100000 in
set_option maxHeartbeats 1000000 in
theorem collE_any (cap : Value) (Lst : List (List Int)) (w : World)
    (hG : ∀ (y : World) (g mb : Nat), Below w.heap.size w y → Bk y g mb [] → Calls Tryd.prog 31 #[fsum g, cap] y fun r y' => r = .returned (.tuple #[]) ∧ Bk y' g mb Lst ∧ Bel g mb y y') :
    Calls Tryd.prog 30 #[.func (.func 31) #[] #[cap]] w fun r w' => ∃ av bv fd, r = .returned (.tuple #[av, bv, .bool fd]) ∧ Told w' Lst av bv fd ∧ Below w.heap.size w w' := by
  have HG := hide hG
  clear hG
  have hmk := run_makeMp w
  have hbd := build_book w.heap.size
  go_enter Tryd.func30, Tryd.ntmps30
  go_wp2_with (refine step_box (cs := [.map (some w.heap.size), .slice none 0 0, .slice none 0 0, .bool false]) rfl rfl ?_)
  intro y g hr hl hb
  have hb0 : Below w.heap.size w (w.alloc (.map #[] 0)) := (Below.refl _ _).alloc (Nat.le_refl _) _
  have hmap : y.heap[w.heap.size]? = some (.map #[] 0) := by
    rw [hb.block w.heap.size (by simp)]
    exact heap_alloc_new w _
  have BY := hide (hb0.trans (hb.mono (by simp)))
  have hg : w.heap.size ≤ g := Nat.le_trans (by simp) hl
  have KY : Hid (Bk y g w.heap.size []) := hide ⟨[], _, _, _, #[], 0, hr, hmap, by simp, by simp, by simp, fun _ => ⟨rfl, rfl, by simp⟩, fun h => by cases h⟩
  clear hmk hbd hb0 hmap hr hl hb
  go_wp2_with fail
  refine (HG.out y g w.heap.size BY.out KY.out).mono ?_
  rintro r z ⟨rfl, hB1, hbel1⟩
  obtain ⟨F, av, bv, fd, es, clock, hd⟩ := hB1
  have HD := hide hd
  have BZ := hide (BY.out.trans (hbel1.below hg (Nat.le_refl _) BY.out.size))
  clear hd hbel1
  go_wp2_with fail
  refine wp_region_noPanic ?_
  have Z0 := hide ((Below.refl z.heap.size z).drew)
  refine wp_region_held_drew (S := fun v : World => v.cell? ⟨g, 1, none⟩ = some av ∧ v.cell? ⟨g, 2, none⟩ = some bv ∧ v.cell? ⟨g, 3, none⟩ = some (.bool fd)) (by kernel_rfl) ⟨by rw [(HD.out.blk.on Z0.out).cell]; rfl, by rw [(HD.out.blk.on Z0.out).cell]; rfl, by rw [(HD.out.blk.on Z0.out).cell]; rfl⟩ (fun hHeld => ?_)
  refine takeH 0 13 (.pointer (some ⟨g, 0, none⟩)) hHeld rfl rfl (by kernel_rfl) (by kernel_rfl) (by kernel_rfl) (fun _ _ _ h => h) (Or.inl ⟨by rfl, fun w _ => by go_simp⟩) ?_
  simp only [Act.put, List.setIfInBounds_toArray, List.set_cons_zero, List.set_cons_succ]
  refine takeH 1 14 (.pointer (some ⟨g, 0, none⟩)) hHeld rfl rfl (by kernel_rfl) (by kernel_rfl) (by kernel_rfl) (fun _ _ _ h => h) (Or.inl ⟨by rfl, fun w _ => by go_simp⟩) ?_
  simp only [Act.put, List.setIfInBounds_toArray, List.set_cons_zero, List.set_cons_succ]
  refine takeH 2 15 (.pointer (some ⟨g, 1, none⟩)) hHeld rfl rfl (by kernel_rfl) (by kernel_rfl) (by kernel_rfl) (fun _ _ _ h => h) (Or.inl ⟨by rfl, fun w _ => by go_simp⟩) ?_
  simp only [Act.put, List.setIfInBounds_toArray, List.set_cons_zero, List.set_cons_succ]
  refine takeH 3 16 (av) hHeld rfl rfl (by kernel_rfl) (by kernel_rfl) (by kernel_rfl) (fun _ _ _ h => h) (Or.inl ⟨by rfl, fun w hw => by have hw' : w.cell? ⟨g, 1, none⟩ = some (av) := (fun hw => hw.1) hw; go_simp⟩) ?_
  simp only [Act.put, List.setIfInBounds_toArray, List.set_cons_zero, List.set_cons_succ]
  refine takeH 4 17 (.pointer (some ⟨g, 0, none⟩)) hHeld rfl rfl (by kernel_rfl) (by kernel_rfl) (by kernel_rfl) (fun _ _ _ h => h) (Or.inl ⟨by rfl, fun w _ => by go_simp⟩) ?_
  simp only [Act.put, List.setIfInBounds_toArray, List.set_cons_zero, List.set_cons_succ]
  refine takeH 5 18 (.pointer (some ⟨g, 0, none⟩)) hHeld rfl rfl (by kernel_rfl) (by kernel_rfl) (by kernel_rfl) (fun _ _ _ h => h) (Or.inl ⟨by rfl, fun w _ => by go_simp⟩) ?_
  simp only [Act.put, List.setIfInBounds_toArray, List.set_cons_zero, List.set_cons_succ]
  refine takeH 6 19 (.pointer (some ⟨g, 2, none⟩)) hHeld rfl rfl (by kernel_rfl) (by kernel_rfl) (by kernel_rfl) (fun _ _ _ h => h) (Or.inl ⟨by rfl, fun w _ => by go_simp⟩) ?_
  simp only [Act.put, List.setIfInBounds_toArray, List.set_cons_zero, List.set_cons_succ]
  refine takeH 7 20 (bv) hHeld rfl rfl (by kernel_rfl) (by kernel_rfl) (by kernel_rfl) (fun _ _ _ h => h) (Or.inl ⟨by rfl, fun w hw => by have hw' : w.cell? ⟨g, 2, none⟩ = some (bv) := (fun hw => hw.2.1) hw; go_simp⟩) ?_
  simp only [Act.put, List.setIfInBounds_toArray, List.set_cons_zero, List.set_cons_succ]
  refine takeH 8 21 (.pointer (some ⟨g, 0, none⟩)) hHeld rfl rfl (by kernel_rfl) (by kernel_rfl) (by kernel_rfl) (fun _ _ _ h => h) (Or.inl ⟨by rfl, fun w _ => by go_simp⟩) ?_
  simp only [Act.put, List.setIfInBounds_toArray, List.set_cons_zero, List.set_cons_succ]
  refine takeH 9 22 (.pointer (some ⟨g, 0, none⟩)) hHeld rfl rfl (by kernel_rfl) (by kernel_rfl) (by kernel_rfl) (fun _ _ _ h => h) (Or.inl ⟨by rfl, fun w _ => by go_simp⟩) ?_
  simp only [Act.put, List.setIfInBounds_toArray, List.set_cons_zero, List.set_cons_succ]
  refine takeH 10 23 (.pointer (some ⟨g, 3, none⟩)) hHeld rfl rfl (by kernel_rfl) (by kernel_rfl) (by kernel_rfl) (fun _ _ _ h => h) (Or.inl ⟨by rfl, fun w _ => by go_simp⟩) ?_
  simp only [Act.put, List.setIfInBounds_toArray, List.set_cons_zero, List.set_cons_succ]
  refine takeH 11 24 (.bool fd) hHeld rfl rfl (by kernel_rfl) (by kernel_rfl) (by kernel_rfl) (fun _ _ _ h => h) (Or.inl ⟨by rfl, fun w hw => by have hw' : w.cell? ⟨g, 3, none⟩ = some (.bool fd) := (fun hw => hw.2.2) hw; go_simp⟩) ?_
  simp only [Act.put, List.setIfInBounds_toArray, List.set_cons_zero, List.set_cons_succ]
  refine takeH 12 2 av hHeld rfl rfl (by kernel_rfl) (by kernel_rfl) (by kernel_rfl) (fun _ _ _ h => h) (Or.inl ⟨by rfl, fun w _ => by go_simp⟩) ?_
  simp only [Act.put, List.setIfInBounds_toArray, List.set_cons_zero, List.set_cons_succ]
  refine takeH 13 3 bv hHeld rfl rfl (by kernel_rfl) (by kernel_rfl) (by kernel_rfl) (fun _ _ _ h => h) (Or.inl ⟨by rfl, fun w _ => by go_simp⟩) ?_
  simp only [Act.put, List.setIfInBounds_toArray, List.set_cons_zero, List.set_cons_succ]
  refine takeH 14 4 (.bool fd) hHeld rfl rfl (by kernel_rfl) (by kernel_rfl) (by kernel_rfl) (fun _ _ _ h => h) (Or.inl ⟨by rfl, fun w _ => by go_simp⟩) ?_
  simp only [Act.put, List.setIfInBounds_toArray, List.set_cons_zero, List.set_cons_succ]
  refine wpAnyH_done (by kernel_rfl) ?_ _
  refine NoPanic.normal ?_
  clear hHeld
  go_wp2
  refine bodyPost_ret (results_tmp3 rfl _ _ _) rfl ⟨av, bv, fd, rfl, (HD.out.on Z0.out).told, BZ.out.trans (Z0.out.mono BZ.out.size)⟩

/-- Of a claim that was accepted: what the numbers are. -/
structure Ac9 (c : Cv) (m n i : Nat) : Prop where
  em : c.m = (m : Int)
  en : c.n = (n : Int)
  ei : c.i = (i : Int)
  hm : 1 ≤ m
  hmn : m ≤ n
  hn : n ≤ 281474976710656
  him : i < m
  ls : c.ls = (hvM m 0 n).length + ptM m 0 n
  lo : c.lo = (hvL i 0 m).length
  ln : c.ln = (hvL i 0 n).length
  fO : fo (hvM m 0 n) (c.S.drop (32 * ptM m 0 n)) (st0 (ptM m 0 n) c.o c.S) (hvM m 0 n).length = c.o
  fN : fu (hvM m 0 n) (c.S.drop (32 * ptM m 0 n)) (st0 (ptM m 0 n) c.o c.S) (hvM m 0 n).length = c.nw
  fx : fu (hvL i 0 m) c.O (lf c.X) c.lo = c.o
  fy : fu (hvL i 0 n) c.N (lf c.Y) c.ln = c.nw
theorem conE_zero {o nw : List Int} {m n : Int} {l : Nat} {xs : List Int} (h : conE o nw m n l xs = 0) : ∃ m' n' : Nat, m = (m' : Int) ∧ n = (n' : Int) ∧ 1 ≤ m' ∧ m' ≤ n' ∧ n' ≤ 281474976710656 ∧ l = (hvM m' 0 n').length + ptM m' 0 n' ∧
    fo (hvM m' 0 n') (xs.drop (32 * ptM m' 0 n')) (st0 (ptM m' 0 n') o xs) (hvM m' 0 n').length = o ∧ fu (hvM m' 0 n') (xs.drop (32 * ptM m' 0 n')) (st0 (ptM m' 0 n') o xs) (hvM m' 0 n').length = nw := by
  unfold conE at h
  split at h
  · cases h
  · rename_i hc
    obtain ⟨m', rfl⟩ : ∃ i' : Nat, m = (i' : Int) := ⟨m.toNat, by omega⟩
    obtain ⟨n', rfl⟩ : ∃ i' : Nat, n = (i' : Int) := ⟨n.toNat, by omega⟩
    rw [Int.toNat_natCast, Int.toNat_natCast] at h
    split at h
    · rename_i hl
      split at h
      · rename_i hh
        exact ⟨m', n', rfl, rfl, by omega, by omega, by omega, hl, hh.1, hh.2⟩
      · cases h
    · cases h
theorem incB_true {data : List Int} {i n : Int} {l : Nat} {xs root : List Int} (h : incB data i n l xs root = true) : ∃ i' n' : Nat, i = (i' : Int) ∧ n = (n' : Int) ∧ i' < n' ∧ n' ≤ 281474976710656 ∧ l = (hvL i' 0 n').length ∧ fu (hvL i' 0 n') xs (lf data) l = root := by
  unfold incB at h
  have h0 : incE (lf data) i n l xs root = 0 := by simpa using h
  unfold incE at h0
  split at h0
  · cases h0
  · rename_i hc
    obtain ⟨i', rfl⟩ : ∃ i' : Nat, i = (i' : Int) := ⟨i.toNat, by omega⟩
    obtain ⟨n', rfl⟩ : ∃ i' : Nat, n = (i' : Int) := ⟨n.toNat, by omega⟩
    rw [Int.toNat_natCast, Int.toNat_natCast] at h0
    split at h0
    · rename_i hl
      split at h0
      · rename_i hh
        exact ⟨i', n', rfl, rfl, by omega, by omega, hl, hh⟩
      · cases h0
    · cases h0
theorem Cv.accs {c : Cv} (h : c.acc = true) : ∃ m n i, Ac9 c m n i := by
  unfold Cv.acc at h
  rw [Bool.and_eq_true, Bool.and_eq_true] at h
  obtain ⟨⟨h1, h2⟩, h3⟩ := h
  have h1' : c.e1 = 0 := by simpa using h1
  obtain ⟨m, n, a1, a2, a3, a4, a5, a6, a7, a8⟩ := conE_zero h1'
  obtain ⟨i, m', b1, b2, b3, b4, b5, b6⟩ := incB_true h2
  obtain ⟨i', n', c1, c2, c3, c4, c5, c6⟩ := incB_true h3
  obtain rfl : m' = m := by omega
  obtain rfl : n' = n := by omega
  obtain rfl : i' = i := by omega
  exact ⟨_, _, _, a1, a2, b1, a3, a4, a5, b3, a6, b5, c5, a7, a8, b6, c6⟩
/-- The strings that the three checks hash. -/
def Cv.strs (c : Cv) (m n i : Nat) : List (List Int) := so (hvM m 0 n) (c.S.drop (32 * ptM m 0 n)) (st0 (ptM m 0 n) c.o c.S) (hvM m 0 n).length ++ ((0 :: c.X) :: si (hvL i 0 m) c.O (lf c.X) c.lo) ++ ((0 :: c.Y) :: si (hvL i 0 n) c.N (lf c.Y) c.ln)
/-- .. two unlike ones of them have one digest, where the leaves are unlike. -/
theorem Ac9.leaves {c : Cv} {m n i : Nat} (h : Ac9 c m n i) (ho : c.o.length = 32) (hS : c.S.length = 32 * c.ls) (hO : OneEach (fun s => s ∈ c.strs m n i)) : c.X = c.Y := by
  refine leaf_down (S := fun s => s ∈ c.strs m n i) hO (xs := c.S.drop (32 * ptM m 0 n)) (d0 := st0 (ptM m 0 n) c.o c.S) (px := c.O) (py := c.N) (m := m) (i := i) (st0_length ho hS (by rw [h.ls]; omega)) ?_ ?_ h.him n 0 n (Nat.le_refl _) h.hn (Nat.zero_le _) (by have := h.hmn; omega) ?_ ?_ ?_ ?_ ?_ ?_
  · unfold Cv.strs; simp
  · unfold Cv.strs; simp
  · intro j hj
    rw [dat_drop]
    exact dat_length hS (by rw [h.ls]; omega)
  · rw [Nat.sub_zero, ← h.lo, h.fx, h.fO]
  · rw [← h.ln, h.fy, h.fN]
  · intro s hs
    unfold Cv.strs
    simp [hs]
  · intro s hs
    rw [Nat.sub_zero, ← h.lo] at hs
    unfold Cv.strs
    simp [hs]
  · intro s hs
    rw [← h.ln] at hs
    unfold Cv.strs
    simp [hs]

set_option maxRecDepth 100000 in
set_option maxHeartbeats 1000000 in
theorem exc1_any (c : Cv) (m n i gc g mb : Nat) (w : World) (hA : Ac9 c m n i) (hi : c.In w) (hc : Blk w gc 27 c.cells) (hk : KT w) (hB : Bk w g mb []) :
    Calls Tryd.prog 31 #[fsum g, .pointer (some ⟨gc, 0, none⟩)] w fun r w' => r = .returned (.tuple #[]) ∧ Bk w' g mb (c.strs m n i) ∧ Bel g mb w w' := by
  have HA := hide hA
  have HI := hide hi
  have HC := hide hc
  have HK := hide hk
  have HB := hide hB
  have HO := hide hi.lo
  have HN := hide hi.ln
  clear hA hi hc hk hB
  obtain ⟨k1, k2, k3, k4, k5, k6, k7, k8⟩ := Cv.at HC.out HO.out HN.out
  rw [HA.out.em] at k1
  rw [HA.out.en] at k2
  rw [HA.out.ei] at k4
  simp only [fsum]
  go_enter Tryd.func31, Tryd.ntmps31
  go_wp2_with (first | (refine step_load wD rfl rfl HC.out (u8s c.o) (by rw [u8s_length, HO.out]) (Cv.fO HO.out) ?_) | (go_at_call 32; refine (rcon_any g mb c.o HO.out HI.out.bo m n c.aq c.ls c.cs c.S [] _ HA.out.hm HA.out.hmn HA.out.hn HA.out.ls HI.out.ds HB.out HK.out).mono ?_))
  rintro r w1 ⟨⟨v1, rfl⟩, hB1, hbel1⟩
  rw [List.nil_append] at hB1
  have C1 := hide (HB.out.blk hbel1 HC.out (by decide))
  have X1 := hide (HB.out.sl hbel1 HI.out.sx)
  have Y1 := hide (HB.out.sl hbel1 HI.out.sy)
  have O1 := hide (HB.out.ds hbel1 HI.out.dO)
  have N1 := hide (HB.out.ds hbel1 HI.out.dN)
  have KT1 := hide (HB.out.kt hbel1 HK.out)
  have BL1 := hide hbel1
  have K1 := hide hB1
  clear hB1 hbel1 k1 k2 k3 k4 k5 k6 k7 k8
  obtain ⟨k1, k2, k3, k4, k5, k6, k7, k8⟩ := Cv.at C1.out HO.out HN.out
  rw [HA.out.em] at k1
  rw [HA.out.en] at k2
  rw [HA.out.ei] at k4
  go_wp2_with (go_at_call 33; refine (rinc_any g mb c.ax c.lx c.cx c.X i m c.ao c.lo c.co c.O _ _ HI.out.hx HA.out.him (Nat.le_trans HA.out.hmn HA.out.hn) HA.out.lo X1.out O1.out K1.out KT1.out).mono ?_)
  rintro r w2 ⟨⟨v2, rfl⟩, hB2, hbel2⟩
  have C2 := hide (K1.out.blk hbel2 C1.out (by decide))
  have Y2 := hide (K1.out.sl hbel2 Y1.out)
  have N2 := hide (K1.out.ds hbel2 N1.out)
  have KT2 := hide (K1.out.kt hbel2 KT1.out)
  have BL2 := hide (BL1.out.trans hbel2)
  have K2 := hide hB2
  clear hB2 hbel2 k1 k2 k3 k4 k5 k6 k7 k8
  obtain ⟨k1, k2, k3, k4, k5, k6, k7, k8⟩ := Cv.at C2.out HO.out HN.out
  rw [HA.out.em] at k1
  rw [HA.out.en] at k2
  rw [HA.out.ei] at k4
  go_wp2_with (go_at_call 33; refine (rinc_any g mb c.ay c.ly c.cy c.Y i n c.an c.ln c.cn c.N _ _ HI.out.hy (Nat.lt_of_lt_of_le HA.out.him HA.out.hmn) HA.out.hn HA.out.ln Y2.out N2.out K2.out KT2.out).mono ?_)
  rintro r w3 ⟨⟨v3, rfl⟩, hB3, hbel3⟩
  have K3 := hide hB3
  have BL3 := hide (BL2.out.trans hbel3)
  clear hB3 hbel3 k1 k2 k3 k4 k5 k6 k7 k8
  go_wp2
  go_end0
  exact ⟨rfl, K3.out, BL3.out⟩

end Go.Proofs.YtconeobaohmbnaaDoor

/-
  Extract.
-/
namespace Go.Proofs.YtconeobaohmbnaaDoor
open Go.RowKit
set_option linter.unusedVariables false

/-- What Extract tells: nothing, or two unlike strings of one digest. -/
structure Ext (w : World) (av bv : Value) (fd : Bool) : Prop where
  no : fd = false → av = .slice none 0 0 ∧ bv = .slice none 0 0
  yes : fd = true → ∃ a l c A b m d B, av = .slice a l c ∧ bv = .slice b m d ∧ Sl w a l c A ∧ Sl w b m d B ∧ A ≠ B ∧ dg bL 0 A = dg bL 0 B
theorem Ext.below {w w' : World} {av bv : Value} {fd : Bool} (h : Ext w av bv fd) (hb : Below w.heap.size w w') : Ext w' av bv fd :=
  ⟨h.no, fun hf => by
    obtain ⟨a, l, c, A, b, m, d, B, h1, h2, h3, h4, h5, h6⟩ := h.yes hf
    exact ⟨a, l, c, A, b, m, d, B, h1, h2, h3.below hb, h4.below hb, h5, h6⟩⟩
theorem Ext.none (w : World) : Ext w (.slice none 0 0) (.slice none 0 0) false := ⟨fun _ => ⟨rfl, rfl⟩, fun h => by cases h⟩
set_option maxRecDepth 100000 in
set_option maxHeartbeats 1000000 in
theorem ext_any (c : Cv) (w : World) (hi : c.In w) (hk : KT w) :
    Calls Tryd.prog 11 #[.agg c.cells.toArray] w fun r w' => ∃ av bv, r = .returned (.tuple #[av, bv, .bool (c.acc && decide (c.X ≠ c.Y))]) ∧ Ext w' av bv (c.acc && decide (c.X ≠ c.Y)) ∧ Below w.heap.size w w' := by
  have HI := hide hi
  have HK := hide hk
  have HO := hide hi.lo
  have HN := hide hi.ln
  have HLC := hide (Cv.length hi.lo hi.ln)
  clear hi hk
  by_cases hxy : c.X = c.Y
  · have hdc : decide (c.X = c.Y) = true := decide_eq_true hxy
    have HR : Hid ((c.acc && decide (c.X ≠ c.Y)) = false) := hide (by simp [hxy])
    rw [HR.out]
    go_enter Tryd.func11, Tryd.ntmps11
    go_wp2_with (refine step_box (cs := c.cells) rfl rfl ?_)
    intro y g1 hr1 hl1 hb1
    have G1 := hide hr1
    have BY := hide hb1
    have HIY := hide (HI.out.below hb1)
    have KY := hide (HK.out.below hb1 HK.out.lt)
    clear hr1 hb1
    obtain ⟨k1, k2, k3, k4, k5, k6, k7, k8⟩ := Cv.at G1.out HO.out HN.out
    go_wp2_with (go_at_call 29; refine (bytesEq_any _ _ _ c.X _ _ _ c.Y _ HIY.out.sx HIY.out.sy).mono ?_; rintro r w' ⟨rfl, rfl⟩; rw [hdc])
    refine bodyPost_ret (results_tmp3 rfl _ _ _) rfl ⟨_, _, rfl, Ext.none _, BY.out⟩
  · have hdc : decide (c.X = c.Y) = false := decide_eq_false hxy
    cases hac : c.acc with
    | false =>
      rw [Bool.false_and]
      go_enter Tryd.func11, Tryd.ntmps11
      go_wp2_with (refine step_box (cs := c.cells) rfl rfl ?_)
      intro y g1 hr1 hl1 hb1
      have G1 := hide hr1
      have BY := hide hb1
      have HIY := hide (HI.out.below hb1)
      have KY := hide (HK.out.below hb1 HK.out.lt)
      clear hr1 hb1
      obtain ⟨k1, k2, k3, k4, k5, k6, k7, k8⟩ := Cv.at G1.out HO.out HN.out
      go_wp2_with (first | (go_at_call 29; refine (bytesEq_any _ _ _ c.X _ _ _ c.Y _ HIY.out.sx HIY.out.sy).mono ?_; rintro r w' ⟨rfl, rfl⟩; rw [hdc]) | (refine step_load wCl rfl rfl G1.out _ HLC.out (by rw [List.drop_zero, List.take_of_length_le (by rw [HLC.out]; omega)]) ?_) | (go_at_call 8; refine (accepted_any c _ HIY.out KY.out).mono ?_))
      rintro r w2 ⟨rfl, hb2⟩
      rw [hac]
      go_wp2
      refine bodyPost_ret (results_tmp3 rfl _ _ _) rfl ⟨_, _, rfl, Ext.none _, BY.out.trans (hb2.mono BY.out.size)⟩
    | true =>
      have HR : Hid ((true && decide (c.X ≠ c.Y)) = true) := hide (by simp [hxy])
      rw [HR.out]
      obtain ⟨m, n, i, hA⟩ := Cv.accs hac
      have HA := hide hA
      clear hA
      go_enter Tryd.func11, Tryd.ntmps11
      go_wp2_with (refine step_box (cs := c.cells) rfl rfl ?_)
      intro y g1 hr1 hl1 hb1
      have G1 := hide hr1
      have BY := hide hb1
      have HIY := hide (HI.out.below hb1)
      have KY := hide (HK.out.below hb1 HK.out.lt)
      clear hr1 hb1
      obtain ⟨k1, k2, k3, k4, k5, k6, k7, k8⟩ := Cv.at G1.out HO.out HN.out
      go_wp2_with (first | (go_at_call 29; refine (bytesEq_any _ _ _ c.X _ _ _ c.Y _ HIY.out.sx HIY.out.sy).mono ?_; rintro r w' ⟨rfl, rfl⟩; rw [hdc]) | (refine step_load wCl rfl rfl G1.out _ HLC.out (by rw [List.drop_zero, List.take_of_length_le (by rw [HLC.out]; omega)]) ?_) | (go_at_call 8; refine (accepted_any c _ HIY.out KY.out).mono ?_))
      rintro r z ⟨rfl, hb2⟩
      rw [hac]
      have BZ := hide (BY.out.trans (hb2.mono BY.out.size))
      have GZ := hide (G1.out.on hb2)
      have HIZ := hide (HIY.out.below hb2)
      have KZ := hide (KY.out.below hb2 KY.out.lt)
      clear hb2 k1 k2 k3 k4 k5 k6 k7 k8
      go_wp2_with (go_at_call 30; refine (collE_any (.pointer (some ⟨g1, 0, none⟩)) (c.strs m n i) _ (fun y g mb hby hBk => exc1_any c m n i g1 g mb y HA.out (HIZ.out.below hby) (GZ.out.on hby) (KZ.out.below hby KZ.out.lt) hBk)).mono ?_)
      rintro r v ⟨av, bv, fd, rfl, hT, hbv⟩
      have hfd : fd = true := by
        cases fd with
        | true => rfl
        | false => exact absurd (HA.out.leaves HO.out HIZ.out.ds.hlen (hT.no rfl).2.2) hxy
      subst hfd
      have HT := hide hT
      clear hT
      go_wp2
      refine bodyPost_ret (results_tmp3 rfl _ _ _) rfl ⟨_, _, rfl, ⟨(fun h => by cases h), HT.out.yes⟩, BZ.out.trans (hbv.mono BZ.out.size)⟩

end Go.Proofs.YtconeobaohmbnaaDoor

/-
  A region that draws, by what holds of each slot once it is filled: no order is walked; the last operation waits for all others.
-/
namespace Go.Proofs.YtconeobaohmbnaaDoor
open Go.RowKit
set_option linter.unusedVariables false

/-- Only these slots were filled. -/
structure Frm (a0 a : Act) (slots : List Nat) : Prop where
  size : a.tmps.size = a0.tmps.size
  defers : a.defers = a0.defers
  keep : ∀ k, k ∉ slots → a.tmps.getD k undef = a0.tmps.getD k undef
theorem Frm.refl (a : Act) (slots : List Nat) : Frm a a slots := ⟨rfl, rfl, fun _ _ => rfl⟩
theorem Frm.put {a0 a : Act} {slots : List Nat} (h : Frm a0 a slots) {s : Nat} (hs : s ∈ slots) (v : Value) : Frm a0 (a.put (some s) v) slots := by
  refine ⟨by simp [Act.put, h.size], by simp [Act.put, h.defers], fun k hk => ?_⟩
  have hne : s ≠ k := fun e => hk (e ▸ hs)
  rw [← h.keep k hk]
  simp [Act.put, Array.getD_eq_getD_getElem?, hne]
theorem put_same {a : Act} {s : Nat} (h : s < a.tmps.size) (v : Value) : (a.put (some s) v).tmps.getD s undef = v := by
  simp [Act.put, Array.getD_eq_getD_getElem?, h]
theorem put_other {a : Act} {s k : Nat} (h : s ≠ k) (v : Value) : (a.put (some s) v).tmps.getD k undef = a.tmps.getD k undef := by
  simp [Act.put, Array.getD_eq_getD_getElem?, h]
theorem count_set : ∀ (l : List Bool) (i : Nat), l[i]? = some false → (l.set i true).countP (fun b => !b) + 1 = l.countP (fun b => !b)
  | [], _, h => by simp at h
  | b :: l, 0, h => by
    simp at h
    subst h
    simp
  | b :: l, i + 1, h => by
    have := count_set l i (by simpa using h)
    simp only [List.set_cons_succ, List.countP_cons]
    omega

/-- Of what is older than B nothing has turned; else no cell has, and no block but of bytes (a mark may be laid on these). -/
structure Mk (B : Nat) (w w' : World) : Prop where
  low : Below B w w'
  cell : ∀ x v, w.cell? x = some v → w'.cell? x = some v
  blk : ∀ k t cs, t ≠ 5 → Blk w k t cs → Blk w' k t cs
  ub : ∀ (k : Nat) (C : Array Value) (fr : Nat × Nat), w.heap[k]? = some (Obj.cells C 5 fr) → ∃ fr', w'.heap[k]? = some (Obj.cells C 5 fr')
theorem Mk.refl (B : Nat) (w : World) : Mk B w w := ⟨Below.refl _ _, fun _ _ h => h, fun _ _ _ _ h => h, fun _ _ _ h => ⟨_, h⟩⟩
theorem Mk.trans {B : Nat} {u v w : World} (h : Mk B u v) (k : Mk B v w) : Mk B u w := ⟨h.low.trans k.low, fun x y hx => k.cell x y (h.cell x y hx), fun i t cs ht hb => k.blk i t cs ht (h.blk i t cs ht hb), fun i C fr hi => by
    obtain ⟨fr', h'⟩ := h.ub i C fr hi
    exact k.ub i C fr' h'⟩
theorem Mk.of {B : Nat} {w w' : World} (h : Below w.heap.size w w') (hB : B ≤ w.heap.size) : Mk B w w' :=
  ⟨h.mono hB, fun x v hx => by rw [h.cell (World.block_lt_of_cell? w _ hx)]; exact hx, fun k t cs _ hk => hk.below h hk.lt, fun k C fr hk => ⟨fr, by rw [h.block k (Array.getElem?_eq_some_iff.1 hk).1]; exact hk⟩⟩
theorem Mk.size {B : Nat} {w w' : World} (h : Mk B w w') : w.heap.size ≤ w'.heap.size := h.low.size
theorem Sl.mk' {B : Nat} {w w' : World} {a : Option Addr} {l c : Nat} {xs : List Int} (h : Sl w a l c xs) (hm : Mk B w w') : Sl w' a l c xs := by
  obtain ⟨h1, h2, h3, h4, h5, h6, h7⟩ := h
  refine ⟨h1, h2, h3, h4, h5, h6, fun h0 => ?_⟩
  obtain ⟨b, o, e, hc⟩ := h7 h0
  exact ⟨b, o, e, fun i hi => hm.cell _ _ (hc i hi)⟩

section
variable {P : Program} {ops : Array Oper} {Q : Exit → Act → World → Prop} {md : Region.Mode}
theorem wpOp_of {i : Nat} {o : Oper} {K : Act → World → Prop} {a : Act} {w : World} (hi : ops[i]? = some o) (hg : o.guard = none) (h : Oper.wp P o a w K Q) : wpOp P ops Q i K a w := by
  have hw : Region.wanted o (yielded ops a.tmps) = true := by simp [Region.wanted, hg]
  unfold Go.wpOp
  simp only [hi, hw, if_true]
  exact .inl h
theorem listed_of_waits {i j : Nat} {listed : Array Bool} (hi : i ∈ Region.ready md ops listed) (hw : waits md ops i j = true) : listed.getD j true = true := by
  obtain ⟨_, o, ho, hall⟩ := mem_ready.1 hi
  unfold waits at hw
  rw [ho] at hw
  simp only [Array.any_eq_true', Bool.and_eq_true, beq_iff_eq] at hw
  obtain ⟨e, he, hb, hon⟩ := hw
  have h1 := hall e he hb
  rw [hon] at h1
  rcases Nat.lt_or_ge j listed.size with h' | h'
  · simp [h'] at h1 ⊢; exact h1
  · simp [h']
/-- All edges that bind lead back. -/
def backB (md : Region.Mode) (ops : Array Oper) : Bool := (List.range ops.size).all fun i => match ops[i]? with | some o => o.after.all fun e => !Region.binds md e || decide (e.on < i) | none => true
theorem back_of (h : backB md ops = true) {i : Nat} {o : Oper} (ho : ops[i]? = some o) {e : Edge} (he : e ∈ o.after) (hb : Region.binds md e = true) : e.on < i := by
  unfold backB at h
  have hi : i < ops.size := (Array.getElem?_eq_some_iff.1 ho).1
  have h1 := List.all_eq_true.1 h i (List.mem_range.2 hi)
  rw [ho] at h1
  have h2 := (Array.all_eq_true'.1 h1) e he
  rw [hb] at h2
  simpa using h2
theorem least {listed : Array Bool} : ∀ (k : Nat), listed.getD k true = false → ∃ i, listed.getD i true = false ∧ ∀ j, j < i → listed.getD j true = true := by
  intro k
  induction k using Nat.strongRecOn with
  | ind k ih =>
    intro hk
    by_cases h : ∃ j, j < k ∧ listed.getD j true = false
    · obtain ⟨j, hj, hf⟩ := h
      exact ih j hj hf
    · refine ⟨k, hk, fun j hj => ?_⟩
      cases hf : listed.getD j true with
      | true => rfl
      | false => exact absurd ⟨j, hj, hf⟩ h
theorem getD_lt {listed : Array Bool} {i : Nat} (h : listed.getD i true = false) : i < listed.size := by
  rcases Nat.lt_or_ge i listed.size with h' | h'
  · exact h'
  · simp [h'] at h
theorem wpAny_end {listed : Array Bool} {a : Act} {w : World} (hr : Region.ready md ops listed = []) (h : Q .normal a w) : ∀ fuel, wpAny P md ops Q fuel listed a w
  | 0 => ⟨hr, h⟩
  | _ + 1 => ⟨fun _ => h, by rw [hr]; simp⟩
theorem wpAny_inv {n : Nat} {slot : Nat → Nat} {slots : List Nat} {Val : Nat → Value → World → Prop} {z : World} {a0 : Act} {R : World → World → Prop}
    (hback : backB md ops = true) (hRt : ∀ u v w, R u v → R v w → R u w) (hmono : ∀ j v w w', Val j v w → R w w' → Val j v w') (hlw : ∀ j, j < n → waits md ops n j = true) (hsl : ∀ i, i < n → slot i ∈ slots) (hsz : ∀ i, i < n → slot i < a0.tmps.size) (hdis : ∀ i j, i < n → j < n → slot i = slot j → i = j)
    (hstep : ∀ i, i < n → ∀ a w, Frm a0 a slots → R z w → (∀ j, j < n → waits md ops i j = true → Val j (a.tmps.getD (slot j) undef) w) → wpOp P ops Q i (fun a' w' => ∃ v, a' = a.put (some (slot i)) v ∧ Val i v w' ∧ R w w') a w)
    (hlast : ∀ a w, Frm a0 a slots → R z w → (∀ j, j < n → Val j (a.tmps.getD (slot j) undef) w) → wpOp P ops Q n (fun a' w' => Q .normal a' w') a w) (hops : ops.size = n + 1) :
    ∀ (fuel : Nat) (listed : Array Bool) (a : Act) (w : World), listed.toList.countP (fun b => !b) ≤ fuel → listed.size = n + 1 → listed.getD n true = false → Frm a0 a slots → R z w → (∀ j, j < n → listed.getD j true = true → Val j (a.tmps.getD (slot j) undef) w) →
      wpAny P md ops Q fuel listed a w := by
  intro fuel
  induction fuel with
  | zero =>
    intro listed a w hc hs hn _ _ _
    exfalso
    have hlt : n < listed.size := by omega
    have h1 : listed.toList[n]? = some false := by
      rw [Array.getElem?_toList, Array.getElem?_eq_getElem hlt]
      simpa [hlt] using hn
    have := count_set _ _ h1
    omega
  | succ fuel ih =>
    intro listed a w hc hs hn hF hB hV
    have hlt : n < listed.size := by omega
    refine ⟨fun hr => ?_, fun i hi => ?_⟩
    · exfalso
      obtain ⟨i, h1, h2⟩ := least n hn
      have hil := getD_lt h1
      have hmem : i ∈ Region.ready md ops listed := by
        refine mem_ready.2 ⟨h1, ops[i]'(by omega), Array.getElem?_eq_getElem (by omega), fun e he hb => ?_⟩
        have hlt' := back_of hback (Array.getElem?_eq_getElem (by omega)) he hb
        have h3 := h2 e.on hlt'
        have h4 : e.on < listed.size := by omega
        simp [h4] at h3 ⊢
        exact h3
      rw [hr] at hmem
      cases hmem
    · have hiu := (mem_ready.1 hi).1
      have hil := getD_lt hiu
      have hcnt : (listed.setIfInBounds i true).toList.countP (fun b => !b) ≤ fuel := by
        have h1 : listed.toList[i]? = some false := by
          rw [Array.getElem?_toList, Array.getElem?_eq_getElem hil]
          simpa [hil] using hiu
        have := count_set _ _ h1
        rw [Array.toList_setIfInBounds]
        omega
      by_cases hin : i = n
      · subst hin
        have hall : ∀ j, j < i → listed.getD j true = true := fun j hj => listed_of_waits hi (hlw j hj)
        have hr : Region.ready md ops (listed.setIfInBounds i true) = [] := by
          refine List.eq_nil_iff_forall_not_mem.2 fun j hj => ?_
          have h1 := (mem_ready.1 hj).1
          have h2 := getD_lt h1
          rw [Array.size_setIfInBounds] at h2
          by_cases hji : i = j
          · subst hji
            simp [h2] at h1
          · rw [getD_set_ne true hji, hall j (by omega)] at h1
            cases h1
        exact wpOp_mono (fun a' w' h => wpAny_end hr h fuel) (hlast a w hF hB (fun j hj => hV j hj (hall j hj)))
      · have hlt' : i < n := by omega
        refine wpOp_mono (fun a' w' h => ?_) (hstep i hlt' a w hF hB (fun j hj hw => hV j hj (listed_of_waits hi hw)))
        obtain ⟨v, rfl, hv, hb⟩ := h
        refine ih _ _ _ hcnt (by rw [Array.size_setIfInBounds]; exact hs) (by rw [getD_set_ne true hin]; exact hn) (hF.put (hsl i hlt') v) (hRt _ _ _ hB hb) (fun j hj hl => ?_)
        by_cases hji : i = j
        · subst hji
          rw [put_same (by rw [hF.size]; exact hsz i hlt')]
          exact hv
        · rw [put_other (fun e => hji (hdis i j hlt' hj e))]
          rw [getD_set_ne true hji] at hl
          exact hmono j _ _ _ (hV j hj hl) hb
theorem wp_region_inv {id n : Nat} {slot : Nat → Nat} {slots : List Nat} {Val : Nat → Value → World → Prop} {z : World} {a0 : Act} {R : World → World → Prop} (hm : P.follows .mixedOrders = true) (hR0 : R z z.drew)
    (hback : backB .any ops = true) (hRt : ∀ u v w, R u v → R v w → R u w) (hmono : ∀ j v w w', Val j v w → R w w' → Val j v w') (hlw : (List.range n).all (fun j => waits .any ops n j) = true) (hsl : (List.range n).all (fun i => decide (slot i ∈ slots)) = true) (hsz : (List.range n).all (fun i => decide (slot i < a0.tmps.size)) = true) (hdis : (List.range n).all (fun i => (List.range n).all fun j => decide (slot i = slot j → i = j)) = true)
    (hstep : ∀ i, i < n → ∀ a w, Frm a0 a slots → R z w → (∀ j, j < n → waits .any ops i j = true → Val j (a.tmps.getD (slot j) undef) w) → wpOp P ops Q i (fun a' w' => ∃ v, a' = a.put (some (slot i)) v ∧ Val i v w' ∧ R w w') a w)
    (hlast : ∀ a w, Frm a0 a slots → R z w → (∀ j, j < n → Val j (a.tmps.getD (slot j) undef) w) → wpOp P ops Q n (fun a' w' => Q .normal a' w') a w) (hops : ops.size = n + 1) :
    (Code.region id ops true).wp P Q a0 z := by
  refine wp_region_any hm ?_
  refine wpAny_inv hback hRt hmono (fun j hj => List.all_eq_true.1 hlw j (List.mem_range.2 hj)) (fun i hi => by simpa using List.all_eq_true.1 hsl i (List.mem_range.2 hi)) (fun i hi => by simpa using List.all_eq_true.1 hsz i (List.mem_range.2 hi)) (fun i j hi hj e => ?_) hstep hlast hops ops.size (Array.replicate ops.size false) a0 _ ?_ (by simp [hops]) (by simp [hops]) (Frm.refl _ _) hR0 (fun j hj hl => ?_)
  · have h1 := List.all_eq_true.1 hdis i (List.mem_range.2 hi)
    have h2 := List.all_eq_true.1 h1 j (List.mem_range.2 hj)
    exact (of_decide_eq_true h2) e
  · refine Nat.le_trans (List.countP_le_length ..) ?_
    simp
  · have : j < ops.size := by omega
    simp [this] at hl
end

end Go.Proofs.YtconeobaohmbnaaDoor

/-
  Claims built; the law's honest: a tree of two leaves makes a claim that is accepted.
-/
namespace Go.Proofs.YtconeobaohmbnaaDoor
open Go.RowKit
set_option linter.unusedVariables false

theorem spl_one (cs : List Value) (v : Value) (k : Nat) (h : k < cs.length) : spl cs [v] k = cs.set k v := by
  unfold spl
  rw [List.set_eq_take_append_cons_drop, if_pos h]
  simp
theorem rCl : Rec 27 c0v.cells [(0, 1), (1, 1), (2, 32), (34, 32), (66, 1), (67, 1), (68, 1), (69, 1), (70, 1), (71, 1)] := fun parts => by kernel_rfl
theorem Cv.upM (c : Cv) (m : Int) : spl c.cells [.int .i64 m] 0 = ({ c with m := m } : Cv).cells := rfl
theorem Cv.upN (c : Cv) (n : Int) : spl c.cells [.int .i64 n] 1 = ({ c with n := n } : Cv).cells := rfl
theorem Cv.len_le {c : Cv} (h1 : c.o.length = 32) (h2 : c.nw.length = 32) {k : Nat} (hk : k ≤ 72) : k ≤ c.cells.length := by rw [Cv.length h1 h2]; exact hk
theorem spl3 (A B C B' : List Value) (h : B.length = B'.length) : spl (A ++ (B ++ C)) B' A.length = A ++ (B' ++ C) := by
  unfold spl
  rw [List.take_left, ← h, ← List.append_assoc A B C, show A.length + B.length = (A ++ B).length by simp, List.drop_left, List.append_assoc]
theorem Cv.upO (c : Cv) (o : List Int) (h1 : c.o.length = 32) (h : o.length = 32) : spl c.cells (u8s o) 2 = ({ c with o := o } : Cv).cells :=
  spl3 [Value.int .i64 c.m, .int .i64 c.n] (u8s c.o) _ (u8s o) (by rw [u8s_length, u8s_length, h1, h])
theorem Cv.upW (c : Cv) (o : List Int) (h1 : c.o.length = 32) (h2 : c.nw.length = 32) (h : o.length = 32) : spl c.cells (u8s o) 34 = ({ c with nw := o } : Cv).cells := by
  have e := spl3 ([Value.int .i64 c.m, .int .i64 c.n] ++ u8s c.o) (u8s c.nw) [Value.slice c.aq c.ls c.cs, .int .i64 c.i, .slice c.ax c.lx c.cx, .slice c.ay c.ly c.cy, .slice c.ao c.lo c.co, .slice c.an c.ln c.cn] (u8s o) (by rw [u8s_length, u8s_length, h2, h])
  rw [List.append_assoc, List.append_assoc, show ([Value.int .i64 c.m, .int .i64 c.n] ++ u8s c.o).length = 34 by simp [u8s_length, h1]] at e
  exact e
theorem Cv.upT (c : Cv) (h1 : c.o.length = 32) (h2 : c.nw.length = 32) (k : Nat) (hk : k < 6) (v : Value) : spl c.cells [v] (66 + k) = [.int .i64 c.m, .int .i64 c.n] ++ (u8s c.o ++ (u8s c.nw ++ [Value.slice c.aq c.ls c.cs, .int .i64 c.i, .slice c.ax c.lx c.cx, .slice c.ay c.ly c.cy, .slice c.ao c.lo c.co, .slice c.an c.ln c.cn].set k v)) := by
  rw [spl_one _ _ _ (by rw [Cv.length h1 h2]; omega), Cv.setTail c h1 h2 k v]
theorem Cv.upS (c : Cv) (h1 : c.o.length = 32) (h2 : c.nw.length = 32) (a : Option Addr) (l d : Nat) (S : List Int) : spl c.cells [.slice a l d] 66 = ({ c with aq := a, ls := l, cs := d, S := S } : Cv).cells := Cv.upT c h1 h2 0 (by omega) _
theorem Cv.upI (c : Cv) (h1 : c.o.length = 32) (h2 : c.nw.length = 32) (i : Int) : spl c.cells [.int .i64 i] 67 = ({ c with i := i } : Cv).cells := Cv.upT c h1 h2 1 (by omega) _
theorem Cv.upX (c : Cv) (h1 : c.o.length = 32) (h2 : c.nw.length = 32) (a : Option Addr) (l d : Nat) (S : List Int) : spl c.cells [.slice a l d] 68 = ({ c with ax := a, lx := l, cx := d, X := S } : Cv).cells := Cv.upT c h1 h2 2 (by omega) _
theorem Cv.upY (c : Cv) (h1 : c.o.length = 32) (h2 : c.nw.length = 32) (a : Option Addr) (l d : Nat) (S : List Int) : spl c.cells [.slice a l d] 69 = ({ c with ay := a, ly := l, cy := d, Y := S } : Cv).cells := Cv.upT c h1 h2 3 (by omega) _
theorem Cv.upA (c : Cv) (h1 : c.o.length = 32) (h2 : c.nw.length = 32) (a : Option Addr) (l d : Nat) (S : List Int) : spl c.cells [.slice a l d] 70 = ({ c with ao := a, lo := l, co := d, O := S } : Cv).cells := Cv.upT c h1 h2 4 (by omega) _
theorem Cv.upB (c : Cv) (h1 : c.o.length = 32) (h2 : c.nw.length = 32) (a : Option Addr) (l d : Nat) (S : List Int) : spl c.cells [.slice a l d] 71 = ({ c with an := a, ln := l, cn := d, N := S } : Cv).cells := Cv.upT c h1 h2 5 (by omega) _
def clPl : List (Nat × Nat) := [(0, 1), (1, 1), (2, 32), (34, 32), (66, 1), (67, 1), (68, 1), (69, 1), (70, 1), (71, 1)]
/-- A field is filled. -/
abbrev clF (c : Cv) (parts : List (Nat × Value)) : Option (Array Value) := Instr.fill (fun i => clPl.toArray[i]?) c.cells.toArray parts
theorem clF.m (c : Cv) (h1 : c.o.length = 32) (h2 : c.nw.length = 32) (x : Int) (r : List (Nat × Value)) : clF c ((0, .int .i64 x) :: r) = clF { c with m := x } r := (fill_cons (vs := [.int .i64 x]) (off := 0) (size := 1) rfl rfl rfl (Cv.len_le h1 h2 (by omega))).trans (by rw [Cv.upM])
theorem clF.n (c : Cv) (h1 : c.o.length = 32) (h2 : c.nw.length = 32) (x : Int) (r : List (Nat × Value)) : clF c ((1, .int .i64 x) :: r) = clF { c with n := x } r := (fill_cons (vs := [.int .i64 x]) (off := 1) (size := 1) rfl rfl rfl (Cv.len_le h1 h2 (by omega))).trans (by rw [Cv.upN])
theorem clF.o (c : Cv) (h1 : c.o.length = 32) (h2 : c.nw.length = 32) (x : List Int) (h : x.length = 32) (r : List (Nat × Value)) : clF c ((2, .agg (u8s x).toArray) :: r) = clF { c with o := x } r := (fill_cons (vs := u8s x) (off := 2) (size := 32) rfl rfl (by rw [u8s_length, h]) (Cv.len_le h1 h2 (by omega))).trans (by rw [Cv.upO c x h1 h])
theorem clF.w (c : Cv) (h1 : c.o.length = 32) (h2 : c.nw.length = 32) (x : List Int) (h : x.length = 32) (r : List (Nat × Value)) : clF c ((3, .agg (u8s x).toArray) :: r) = clF { c with nw := x } r := (fill_cons (vs := u8s x) (off := 34) (size := 32) rfl rfl (by rw [u8s_length, h]) (Cv.len_le h1 h2 (by omega))).trans (by rw [Cv.upW c x h1 h2 h])
theorem clF.s (c : Cv) (h1 : c.o.length = 32) (h2 : c.nw.length = 32) (a : Option Addr) (l d : Nat) (S : List Int) (r : List (Nat × Value)) : clF c ((4, .slice a l d) :: r) = clF { c with aq := a, ls := l, cs := d, S := S } r := (fill_cons (vs := [.slice a l d]) (off := 66) (size := 1) rfl rfl rfl (Cv.len_le h1 h2 (by omega))).trans (by rw [Cv.upS c h1 h2 a l d S])
theorem clF.i (c : Cv) (h1 : c.o.length = 32) (h2 : c.nw.length = 32) (x : Int) (r : List (Nat × Value)) : clF c ((5, .int .i64 x) :: r) = clF { c with i := x } r := (fill_cons (vs := [.int .i64 x]) (off := 67) (size := 1) rfl rfl rfl (Cv.len_le h1 h2 (by omega))).trans (by rw [Cv.upI c h1 h2])
theorem clF.x (c : Cv) (h1 : c.o.length = 32) (h2 : c.nw.length = 32) (a : Option Addr) (l d : Nat) (S : List Int) (r : List (Nat × Value)) : clF c ((6, .slice a l d) :: r) = clF { c with ax := a, lx := l, cx := d, X := S } r := (fill_cons (vs := [.slice a l d]) (off := 68) (size := 1) rfl rfl rfl (Cv.len_le h1 h2 (by omega))).trans (by rw [Cv.upX c h1 h2 a l d S])
theorem clF.y (c : Cv) (h1 : c.o.length = 32) (h2 : c.nw.length = 32) (a : Option Addr) (l d : Nat) (S : List Int) (r : List (Nat × Value)) : clF c ((7, .slice a l d) :: r) = clF { c with ay := a, ly := l, cy := d, Y := S } r := (fill_cons (vs := [.slice a l d]) (off := 69) (size := 1) rfl rfl rfl (Cv.len_le h1 h2 (by omega))).trans (by rw [Cv.upY c h1 h2 a l d S])
theorem clF.a (c : Cv) (h1 : c.o.length = 32) (h2 : c.nw.length = 32) (a : Option Addr) (l d : Nat) (S : List Int) (r : List (Nat × Value)) : clF c ((8, .slice a l d) :: r) = clF { c with ao := a, lo := l, co := d, O := S } r := (fill_cons (vs := [.slice a l d]) (off := 70) (size := 1) rfl rfl rfl (Cv.len_le h1 h2 (by omega))).trans (by rw [Cv.upA c h1 h2 a l d S])
theorem clF.b (c : Cv) (h1 : c.o.length = 32) (h2 : c.nw.length = 32) (a : Option Addr) (l d : Nat) (S : List Int) (r : List (Nat × Value)) : clF c ((9, .slice a l d) :: r) = clF { c with an := a, ln := l, cn := d, N := S } r := (fill_cons (vs := [.slice a l d]) (off := 71) (size := 1) rfl rfl rfl (Cv.len_le h1 h2 (by omega))).trans (by rw [Cv.upB c h1 h2 a l d S])
theorem build_cl {w : World} {parts : Array (Nat × Value)} {c : Cv} (h : clF c0v parts.toList = some c.cells.toArray) : (Instr.build 27 parts).run Tryd.prog w = .ok (.agg c.cells.toArray) w :=
  run_build w _ _ _ ((rCl _).trans h)
theorem c0o : c0v.o.length = 32 := by simp [c0v, zer_length]
theorem c0n : c0v.nw.length = 32 := by simp [c0v, zer_length]
theorem conE_is {o nw xs : List Int} {m n l : Nat} (hm : 1 ≤ m) (hmn : m ≤ n) (hn : n ≤ 281474976710656) (hl : l = (hvM m 0 n).length + ptM m 0 n)
    (h1 : fo (hvM m 0 n) (xs.drop (32 * ptM m 0 n)) (st0 (ptM m 0 n) o xs) (hvM m 0 n).length = o) (h2 : fu (hvM m 0 n) (xs.drop (32 * ptM m 0 n)) (st0 (ptM m 0 n) o xs) (hvM m 0 n).length = nw) : conE o nw (m : Int) (n : Int) l xs = 0 := by
  unfold conE
  rw [if_neg (by omega), Int.toNat_natCast, Int.toNat_natCast, if_pos hl, if_pos ⟨h1, h2⟩]
theorem incE_is {leaf xs root : List Int} {i n l : Nat} (hi : i < n) (hn : n ≤ 281474976710656) (hl : l = (hvL i 0 n).length) : incE leaf (i : Int) (n : Int) l xs root = if fu (hvL i 0 n) xs leaf l = root then 0 else 71 := by
  unfold incE
  rw [if_neg (by omega), Int.toNat_natCast, Int.toNat_natCast, if_pos hl]
/-- The claim of honest. -/
def hcl (dx dn dy : List Int) (g16 g18 g20 g22 : Nat) (y : Int) : Cv := ⟨1, 2, dx, dn, 0, some ⟨g16, 0, none⟩, 1, 1, dy, some ⟨g18, 0, none⟩, 1, 1, [120], some ⟨g20, 0, none⟩, 1, 1, [y], none, 0, 0, [], some ⟨g22, 0, none⟩, 1, 1, dy⟩
set_option maxRecDepth 100000 in
theorem build_hcl (dx dn dy : List Int) (hx : dx.length = 32) (hn : dn.length = 32) (g16 g18 g20 g22 : Nat) (w : World) : (Instr.build 27 #[(0, .int .i64 1), (1, .int .i64 2), (2, .agg (u8s dx).toArray), (3, .agg (u8s dn).toArray), (4, .slice (some ⟨g16, 0, none⟩) 1 1), (6, .slice (some ⟨g18, 0, none⟩) 1 1), (7, .slice (some ⟨g20, 0, none⟩) 1 1), (9, .slice (some ⟨g22, 0, none⟩) 1 1)]).run Tryd.prog w = .ok (.agg (hcl dx dn dy g16 g18 g20 g22 120).cells.toArray) w := by
  refine build_cl (c := hcl dx dn dy g16 g18 g20 g22 120) ?_
  refine (clF.m c0v c0o c0n _ _).trans ?_
  refine (clF.n _ (by exact c0o) (by exact c0n) _ _).trans ?_
  refine (clF.o _ (by exact c0o) (by exact c0n) _ hx _).trans ?_
  refine (clF.w _ (by exact hx) (by exact c0n) _ hn _).trans ?_
  refine (clF.s _ (by exact hx) (by exact hn) _ _ _ dy _).trans ?_
  refine (clF.x _ (by exact hx) (by exact hn) _ _ _ [120] _).trans ?_
  refine (clF.y _ (by exact hx) (by exact hn) _ _ _ [120] _).trans ?_
  refine (clF.b _ (by exact hx) (by exact hn) _ _ _ dy _).trans ?_
  rfl
theorem hcl_in {w : World} {dx dn dy : List Int} (hx : dx.length = 32) (bx : isB dx) (hn : dn.length = 32) (bn : isB dn) {g16 g18 g20 g22 : Nat} {y : Int} (h1 : Ds w (some ⟨g16, 0, none⟩) 1 1 dy) (h2 : Sl w (some ⟨g18, 0, none⟩) 1 1 [120]) (h3 : Sl w (some ⟨g20, 0, none⟩) 1 1 [y]) (h4 : Ds w (some ⟨g22, 0, none⟩) 1 1 dy) : (hcl dx dn dy g16 g18 g20 g22 y).In w :=
  ⟨hx, bx, hn, bn, h1, h2, (show (1 : Nat) ≤ 140737488354304 by omega), h3, (show (1 : Nat) ≤ 140737488354304 by omega), (⟨Nat.le_refl _, Nat.zero_le _, fun _ => rfl, Sl.none0 _⟩ : Ds w none 0 0 []), h4⟩
theorem hv01 : hvL 0 0 1 = [] := hvL_one 0 0
theorem hf2 : hf 2 = 1 := by decide +kernel
theorem hv02 : hvL 0 0 2 = [0] := by rw [hvL_lo (by omega) (by omega) (by omega) (by rw [hf2]; omega), hf2, hv01]; rfl
theorem hm12 : hvM 1 0 2 = [0] ∧ ptM 1 0 2 = 0 := by
  obtain ⟨e1, e2⟩ := hvM_lo (m := 1) (b := 0) (n := 2) (by omega) (by omega) (by omega) (by omega) (by omega) (by rw [hf2]; omega)
  rw [hf2] at e1 e2
  obtain ⟨f1, f2⟩ := hvM_end (m := 1) (b := 0) (n := 1) rfl
  rw [f1] at e1
  rw [f2] at e2
  exact ⟨e1, e2⟩
theorem dat_self {d : List Int} (h : d.length = 32) : dat d 0 = d := by unfold dat; rw [Nat.mul_zero, List.drop_zero, List.take_of_length_le (by omega)]
theorem con_h {dx dy : List Int} (hy : dy.length = 32) : conE dx (nd dx dy) 1 2 1 dy = 0 := by
  refine conE_is (m := 1) (n := 2) (by omega) (by omega) (by omega) (by rw [hm12.1, hm12.2]; rfl) ?_ ?_
  · rw [hm12.1, hm12.2]; rfl
  · rw [hm12.1, hm12.2]
    show jn 0 dx (dat (dy.drop (32 * 0)) 0) = _
    rw [Nat.mul_zero, List.drop_zero, dat_self hy]
    rfl
theorem inc_1 {dx : List Int} : incE dx 0 1 0 [] dx = 0 := by
  refine (incE_is (i := 0) (n := 1) (by omega) (by omega) (by rw [hv01]; rfl)).trans ?_
  rw [hv01]
  exact if_pos rfl
theorem inc_2 {d dy root : List Int} (hy : dy.length = 32) : incE d 0 2 1 dy root = if nd d dy = root then 0 else 71 := by
  refine (incE_is (i := 0) (n := 2) (by omega) (by omega) (by rw [hv02]; rfl)).trans ?_
  rw [hv02]
  show (if jn 0 d (dat dy 0) = root then _ else _) = _
  rw [dat_self hy]
  rfl
/-- It is accepted; with another leaf it is not, as their digests are other ones. -/
theorem hcl_acc (dx dn dy : List Int) (hdx : dx = lf [120]) (hy : dy.length = 32) (hdn : dn = nd dx dy) (g16 g18 g20 g22 : Nat) (y : Int) : (hcl dx dn dy g16 g18 g20 g22 y).acc = decide (nd (lf [y]) dy = dn) := by
  have e1 : (hcl dx dn dy g16 g18 g20 g22 y).e1 = 0 := by rw [hdn]; exact con_h hy
  have e2 : (hcl dx dn dy g16 g18 g20 g22 y).b2 = true := by
    show (incE (lf [120]) 0 1 0 [] dx == 0) = true
    rw [hdx, inc_1]
    rfl
  have e3 : (hcl dx dn dy g16 g18 g20 g22 y).b3 = decide (nd (lf [y]) dy = dn) := by
    show (incE (lf [y]) 0 2 1 dy dn == 0) = _
    rw [inc_2 hy]
    by_cases h : nd (lf [y]) dy = dn
    · rw [if_pos h]; simp [h]
    · rw [if_neg h]; simp [h]
  unfold Cv.acc
  rw [e1, e2, e3]
  rfl
theorem nd_apart : nd (lf [122]) (lf [121]) ≠ nd (lf [120]) (lf [121]) := by decide +kernel

end Go.Proofs.YtconeobaohmbnaaDoor

/-
  The program's Inclusion: the closure that tells the proof of a span.
-/
namespace Go.Proofs.YtconeobaohmbnaaDoor
open Go.RowKit
set_option linter.unusedVariables false

/-- What the closure of Inclusion holds: the leaf's span, the leaf's place, itself, the leaves. -/
structure Env (w : World) (gl gi gp gd i bl o n cap : Nat) (xs : List Int) : Prop where
  leaf : Blk w gl 69 (spn i (i + 1))
  at' : Blk w gi 3 [.int .i64 (i : Int)]
  self : Blk w gp 70 [.func (.func 41) #[] #[.pointer (some ⟨gl, 0, none⟩), .pointer (some ⟨gi, 0, none⟩), .pointer (some ⟨gp, 0, none⟩), .pointer (some ⟨gd, 0, none⟩)]]
  var : Blk w gd 24 [.slice (some ⟨bl, o, none⟩) n cap]
  ds : Ds w (some ⟨bl, o, none⟩) n cap xs
  kt : KT w
theorem Env.below {w w' : World} {gl gi gp gd i bl o n cap : Nat} {xs : List Int} (h : Env w gl gi gp gd i bl o n cap xs) (hb : Below w.heap.size w w') : Env w' gl gi gp gd i bl o n cap xs :=
  ⟨h.leaf.below hb h.leaf.lt, h.at'.below hb h.at'.lt, h.self.below hb h.self.lt, h.var.below hb h.var.lt, h.ds.below hb, h.kt.below hb h.kt.lt⟩

theorem sub_lo {xs : List Int} {n b e : Nat} (h : xs.length = 32 * n) (hb : b ≤ e) (he : e ≤ n) (h2 : 2 ≤ e - b) (hn : e < 2 ^ 64) : lo (sub xs b e) = sub xs b (b + hf (e - b)) := by
  have hl := sub_length h hb he
  have hbd := hf_bd (e - b) h2 (by omega)
  rw [lo_eq hl]
  unfold sub
  rw [List.take_take, show b + hf (e - b) - b = hf (e - b) by omega, Nat.min_eq_left (by omega)]
theorem sub_hi {xs : List Int} {n b e : Nat} (h : xs.length = 32 * n) (hb : b ≤ e) (he : e ≤ n) (h2 : 2 ≤ e - b) (hn : e < 2 ^ 64) : hi (sub xs b e) = sub xs (b + hf (e - b)) e := by
  have hl := sub_length h hb he
  have hbd := hf_bd (e - b) h2 (by omega)
  rw [hi_eq hl]
  unfold sub
  rw [List.drop_take, List.drop_drop]
  congr 1
  · omega
  · congr 1
    omega

theorem eqSp (w : World) (a b c d : Int) : (Op.equalIn 10000 69 (.agg #[.int .i64 a, .int .i64 b]) (.agg #[.int .i64 c, .int .i64 d])).run Tryd.prog w = .ok (a == c && b == d) w := by
  by_cases h1 : a = c <;> by_cases h2 : b = d <;> go_simp
theorem guardSp : Tryd.prog.eqGuardType Tryd.prog.depth 69 = false := by kernel_rfl
section
variable {dst : Option Tmp} {ty : TypeId} {pos : String} {aft : Array Edge} {gd : Option (Nat × Bool)} {ops : Array Oper} {rest : List Oper} {a : Act} {w : World} {Q : Exit → Act → World → Prop}
theorem step_eqSp {t' : TypeId} {x y : Operand} {b e b' e' : Nat} (q : Bool) (hq : q = decide (b = b' ∧ e = e')) (hw : Region.wanted ⟨dst, .binOp .eql 69 x y t', ty, pos, aft, gd⟩ (yielded ops a.tmps) = true)
    (hx : a.eval x = .agg (spn b e).toArray) (hy : a.eval y = .agg (spn b' e').toArray) (h : wpList Tryd.prog ops Q rest (a.put dst (.bool q)) w) :
    wpList Tryd.prog ops Q (⟨dst, .binOp .eql 69 x y t', ty, pos, aft, gd⟩ :: rest) a w := by
  refine step_run hw (.bool q) w ?_ h
  have e0 : (((b : Int) == (b' : Int)) && ((e : Int) == (e' : Int))) = q := by
    subst hq
    by_cases h1 : b = b' <;> by_cases h2 : e = e' <;> simp [h1, h2] <;> omega
  have e1 := eqSp w b e b' e'
  rw [e0] at e1
  have e2 : (Op.equalIn 10000 69 (.agg (spn b e).toArray) (.agg (spn b' e').toArray)).run Tryd.prog w = .ok q w := e1
  simp [execOp, hx, hy, run_eqGuard_agg (P := Tryd.prog) w .eql 69 x y _ _ guardSp, run_eql_struct, e2, Result.andThen]
end

set_option maxRecDepth 100000 in
set_option maxHeartbeats 1000000 in
theorem incl1_one (gl gi gp gd i bl o n cap : Nat) (xs : List Int) (w : World) (hE : Env w gl gi gp gd i bl o n cap xs) (hi' : i < n) :
    Calls Tryd.prog 41 #[.agg (spn i (i + 1)).toArray, .pointer (some ⟨gl, 0, none⟩), .pointer (some ⟨gi, 0, none⟩), .pointer (some ⟨gp, 0, none⟩), .pointer (some ⟨gd, 0, none⟩)] w
      fun r w' => ∃ v, r = .returned v ∧ (∃ q, DOwn w' w.heap.size v q (path (sub xs i (i + 1)) 0)) ∧ Below w.heap.size w w' := by
  have EP := hide (path_one (i := 0) (show (sub xs i (i + 1)).length = 32 by rw [sub_length hE.ds.hlen (by omega) (by omega)]; omega))
  rw [EP.out]
  have HE := hide hE
  clear hE
  go_enter Tryd.func41, Tryd.ntmps41
  go_wp2_with (refine step_box (cs := spn i (i + 1)) rfl rfl ?_)
  intro w1 g5 hr1 hl1 hb1
  have G5 := hide hr1
  have GL := hide (HE.out.leaf.below hb1 HE.out.leaf.lt)
  clear hr1
  go_wp2_with (first | (refine step_loadA wSp rfl rfl G5.out rfl ?_) | (refine step_loadA wSp rfl rfl GL.out rfl ?_) | (refine step_eqSp true (by simp) rfl rfl rfl ?_))
  go_ret
  exact ⟨_, rfl, ⟨0, DOwn.nil _ _⟩, hb1⟩

set_option maxRecDepth 100000 in
set_option maxHeartbeats 4000000 in
theorem incl1_any (gl gi gp gd i bl o n cap : Nat) (xs : List Int) (hi' : i < n) : ∀ (m b e : Nat) (w : World), e - b ≤ m → b ≤ i → i < e → e ≤ n → Env w gl gi gp gd i bl o n cap xs →
    Calls Tryd.prog 41 #[.agg (spn b e).toArray, .pointer (some ⟨gl, 0, none⟩), .pointer (some ⟨gi, 0, none⟩), .pointer (some ⟨gp, 0, none⟩), .pointer (some ⟨gd, 0, none⟩)] w
      fun r w' => ∃ v, r = .returned v ∧ (∃ q, DOwn w' w.heap.size v q (path (sub xs b e) (i - b))) ∧ Below w.heap.size w w' := by
  intro m
  induction m with
  | zero => intro b e w hm hb hie hen hE; omega
  | succ m ih =>
    intro b e w hm hb hie hen hE
    by_cases h1 : e - b = 1
    · obtain rfl : b = i := by omega
      obtain rfl : e = b + 1 := by omega
      rw [Nat.sub_self]
      exact incl1_one gl gi gp gd b bl o n cap xs w hE hi'
    have h2 : 2 ≤ e - b := by omega
    have hre := hE.ds.hreach
    have hx := hE.ds.hlen
    have hxb := hE.ds.hbyte
    have hsl := sub_length hx (show b ≤ e by omega) hen
    have hsb := sub_isB hxb b e
    have hbd := hf_bd (e - b) h2 (by omega)
    have ELO := hide (sub_lo hx (by omega) hen h2 (by omega))
    have EHI := hide (sub_hi hx (by omega) hen h2 (by omega))
    obtain ⟨b1, e1, b2, e2, hr, EP0, hb1i, hi1e, he1n, hlt1, hb2, he2⟩ : ∃ b1 e1 b2 e2, ((i < b + hf (e - b) ∧ b1 = b ∧ e1 = b + hf (e - b) ∧ b2 = b + hf (e - b) ∧ e2 = e) ∨ (b + hf (e - b) ≤ i ∧ b1 = b + hf (e - b) ∧ e1 = e ∧ b2 = b ∧ e2 = b + hf (e - b))) ∧
        path (sub xs b e) (i - b) = path (sub xs b1 e1) (i - b1) ++ root (sub xs b2 e2) ∧ b1 ≤ i ∧ i < e1 ∧ e1 ≤ n ∧ e1 - b1 ≤ m ∧ b2 < e2 ∧ e2 ≤ n := by
      by_cases hlt : i < b + hf (e - b)
      · refine ⟨b, b + hf (e - b), b + hf (e - b), e, .inl ⟨hlt, rfl, rfl, rfl, rfl⟩, ?_, by omega, by omega, by omega, by omega, by omega, by omega⟩
        rw [path_lo hsl h2 (by omega) (by omega), ELO.out, EHI.out]
      · refine ⟨b + hf (e - b), e, b, b + hf (e - b), .inr ⟨by omega, rfl, rfl, rfl, rfl⟩, ?_, by omega, by omega, by omega, by omega, by omega, by omega⟩
        rw [path_hi hsl h2 (by omega) (by omega), ELO.out, EHI.out, show i - b - hf (e - b) = i - (b + hf (e - b)) by omega]
    have EP := hide EP0
    have HL2 := hide (root_length (sub_length hx (show b2 ≤ e2 by omega) he2) (sub_isB hxb b2 e2))
    have HB2 := hide (root_isB (sub_length hx (show b2 ≤ e2 by omega) he2) (sub_isB hxb b2 e2))
    have PB : Hid ((path (sub xs b1 e1) (i - b1)).length ≤ 2048) := hide (by
      obtain ⟨⟨q, hq, hl⟩, _⟩ := path_bd _ (e1 - b1) (i - b1) (sub xs b1 e1) (Nat.le_refl _) (by omega) (sub_length hx (by omega) he1n) (by omega) (sub_isB hxb b1 e1) (by omega)
      have := Lib.bitLen_le (e1 - b1 - 1) 64 (Nat.le_refl _) (by omega)
      omega)
    have HR := hide hr
    have HE := hide hE
    clear hE hr EP0 ELO EHI hx hxb hsl hsb
    go_enter Tryd.func41, Tryd.ntmps41
    go_wp2_with (refine step_box (cs := spn b e) rfl rfl ?_)
    intro w1 g5 hr1 hl1 hbw1
    have G5 := hide hr1
    have E1 := hide (HE.out.below hbw1)
    have B1 := hide hbw1
    have GL := hide E1.out.leaf
    have hci : w1.cell? ⟨gi, 0, none⟩ = some (.int .i64 (i : Int)) := by rw [E1.out.at'.cell]; rfl
    clear hr1 hbw1
    go_wp2_with (first | (refine step_loadA wSp rfl rfl G5.out rfl ?_) | (refine step_loadA wSp rfl rfl GL.out rfl ?_) | (refine step_eqSp false (by symm; rw [decide_eq_false_iff_not]; omega) rfl rfl rfl ?_))
    refine (halves_any b e i (hf (e - b)) _ _ rfl h2 (by omega) (by omega) rfl b1 e1 b2 e2 HR.out).mono ?_
    rintro r w2 ⟨rfl, hb2w⟩
    have E2 := hide (E1.out.below hb2w)
    have B2 := hide (B1.out.trans (hb2w.mono B1.out.size))
    clear hb2w E1 G5 GL hci B1 hl1
    go_wp2_with (refine step_alloc zSp rfl ?_)
    intro w3 g7 hr3 hl3 hb3
    have G7 := hide hr3
    clear hr3
    go_wp2_with (refine step_alloc zSp rfl ?_)
    intro w4 g8 hr4 hl4 hb4
    have G8 := hide hr4
    have G74 := hide (G7.out.below hb4 G7.out.lt)
    have n78 : g7 ≠ g8 := by have := G7.out.lt; omega
    have B24 := hide (hb3.trans (hb4.mono hb3.size))
    have h28 : w2.heap.size ≤ g8 := Nat.le_trans hb3.size hl4
    clear hr4 hb3 hb4 G7
    go_wp2_with (refine step_storeA (vs := spn b1 e1) wSp rfl rfl rfl G74.out rfl (spn_one _ _) rfl ?_)
    intro w5 hg5 hbut5
    have G85 := hide (G8.out.but hbut5 n78.symm)
    have G75 := hide hg5
    have B25 := hide (B24.out.trans (hbut5.below hl3))
    clear hg5 hbut5 G8 G74 B24
    go_wp2_with (refine step_storeA (vs := spn b2 e2) wSp rfl rfl rfl G85.out rfl (spn_one _ _) rfl ?_)
    intro w6 hg6 hbut6
    have G86 := hide hg6
    have G76 := hide (G75.out.but hbut6 n78)
    have B26 := hide (B25.out.trans (hbut6.below h28))
    have E6 := hide (E2.out.below B26.out)
    have B6 := hide (B2.out.trans (B26.out.mono B2.out.size))
    clear hg6 hbut6 G85 G75 B25 E2 B26 B2 hl3 hl4
    have hu := Tryd.underlying69
    have hSS : ∀ v : World, Below w6.heap.size w6 v → v.cell? ⟨gp, 0, none⟩ = some (.func (.func 41) #[] #[.pointer (some ⟨gl, 0, none⟩), .pointer (some ⟨gi, 0, none⟩), .pointer (some ⟨gp, 0, none⟩), .pointer (some ⟨gd, 0, none⟩)]) ∧ v.rangeAt g7 0 (spn b1 e1) ∧ v.cell? ⟨gd, 0, none⟩ = some (.slice (some ⟨bl, o, none⟩) n cap) ∧ v.rangeAt g8 0 (spn b2 e2) := fun v hv =>
      ⟨by rw [(E6.out.below hv).self.cell]; rfl, (G76.out.below hv G76.out.lt).range 0 _ (by simp [spn]), by rw [(E6.out.below hv).var.cell]; rfl, (G86.out.below hv G86.out.lt).range 0 _ (by simp [spn])⟩
    go_wp2_with fail
    refine wp_region_noPanic ?_
    have B0 := hide ((Below.refl w6.heap.size w6).drew)
    refine wp_region_held_drew (S := fun v : World => v.cell? ⟨gp, 0, none⟩ = some (.func (.func 41) #[] #[.pointer (some ⟨gl, 0, none⟩), .pointer (some ⟨gi, 0, none⟩), .pointer (some ⟨gp, 0, none⟩), .pointer (some ⟨gd, 0, none⟩)]) ∧ v.rangeAt g7 0 (spn b1 e1) ∧ v.cell? ⟨gd, 0, none⟩ = some (.slice (some ⟨bl, o, none⟩) n cap) ∧ v.rangeAt g8 0 (spn b2 e2)) (by kernel_rfl) (hSS _ B0.out) (fun hHeld => ?_)
    refine takeH 0 18 (.func (.func 41) #[] #[.pointer (some ⟨gl, 0, none⟩), .pointer (some ⟨gi, 0, none⟩), .pointer (some ⟨gp, 0, none⟩), .pointer (some ⟨gd, 0, none⟩)]) hHeld rfl rfl (by kernel_rfl) (by kernel_rfl) (by kernel_rfl) (fun _ _ _ h => h) (Or.inl ⟨by rfl, fun w hw => by have hw' := hw.1; go_simp⟩) ?_
    simp only [Act.put, List.setIfInBounds_toArray, List.set_cons_zero, List.set_cons_succ]
    refine takeH 1 19 (.agg (spn b1 e1).toArray) hHeld rfl rfl (by kernel_rfl) (by kernel_rfl) (by kernel_rfl) (fun _ _ _ h => h) (yieldsIf_load_mid (by rfl) _ _ rfl g7 0 rfl _ _ (fun w h => h.2.1) hu rfl wSp.size) ?_
    simp only [Act.put, List.setIfInBounds_toArray, List.set_cons_zero, List.set_cons_succ]
    refine takeH 3 21 (.slice (some ⟨bl, o, none⟩) n cap) hHeld rfl rfl (by kernel_rfl) (by kernel_rfl) (by kernel_rfl) (fun _ _ _ h => h) (Or.inl ⟨by rfl, fun w hw => by have hw' := hw.2.2.1; go_simp⟩) ?_
    simp only [Act.put, List.setIfInBounds_toArray, List.set_cons_zero, List.set_cons_succ]
    refine takeH 4 22 (.agg (spn b2 e2).toArray) hHeld rfl rfl (by kernel_rfl) (by kernel_rfl) (by kernel_rfl) (fun _ _ _ h => h) (yieldsIf_load_mid (by rfl) _ _ rfl g8 0 rfl _ _ (fun w h => h.2.2.2) hu rfl wSp.size) ?_
    simp only [Act.put, List.setIfInBounds_toArray, List.set_cons_zero, List.set_cons_succ]
    refine wpAnyH_ready (rs := [2]) (by kernel_rfl) (by simp) (AllReadyH.cons rfl (fun K hK => ?_) AllReadyH.nil)
    rw [if_pos (by rfl)]
    go_simp
    refine (ih b1 e1 _ hlt1 hb1i hi1e he1n (E6.out.below B0.out)).mono ?_
    rintro r v1 ⟨u1, rfl, ⟨q1, ho1⟩, hv1⟩
    have B1 := hide (B0.out.trans (hv1.mono B0.out.size))
    refine hK.out _ _ (hSS _ B1.out) (fun hHeld => ?_)
    clear hK K
    refine wpAnyH_ready (rs := [5]) (by kernel_rfl) (by simp) (AllReadyH.cons rfl (fun K hK => ?_) AllReadyH.nil)
    rw [if_pos (by rfl)]
    go_simp
    refine (rootOf_any bl o n cap b2 e2 _ _ xs _ (E6.out.below B1.out).ds rfl rfl hb2 he2 (E6.out.below B1.out).kt).mono ?_
    rintro r v2 ⟨rfl, hv2⟩
    have B2 := hide (B1.out.trans (hv2.mono B1.out.size))
    have ho2 := ho1.below hv2
    refine hK.out _ _ (hSS _ B2.out) (fun hHeld => ?_)
    clear hK K
    refine wpAnyH_ready (rs := [6]) (by kernel_rfl) (by simp) (AllReadyH.cons rfl (fun K hK => ?_) AllReadyH.nil)
    rw [if_pos (by rfl)]
    refine wp_oneD rfl HL2.out HB2.out ?_
    intro v3 gq hsq hv3
    have B3 := hide (B2.out.trans (hv3.mono B2.out.size))
    have ho3 := ho2.below hv3
    refine hK.out _ _ (hSS _ B3.out) (fun hHeld => ?_)
    clear hK K
    simp only [Act.put]
    refine wpAnyH_ready (rs := [7]) (by kernel_rfl) (by simp) (AllReadyH.cons rfl (fun K hK => ?_) AllReadyH.nil)
    rw [if_pos (by rfl)]
    have hq1 : 32 * q1 = (path (sub xs b1 e1) (i - b1)).length := ho3.len.symm
    refine wp_appendDG rfl rfl ho3 hsq (by have := PB.out; omega) (Nat.le_trans hv1.size (Nat.le_trans hv2.size hv3.size)) ?_
    intro u4 v4 ho4 hg4
    have B4 := hide (B3.out.trans (Below.of_grown hg4 B3.out.size (fun k hk => Nat.le_trans B0.out.size (ho3.lt k hk))))
    rw [← EP.out] at ho4
    refine hK.out _ _ (hSS _ B4.out) (fun hHeld => ?_)
    clear hK K
    simp only [Act.put]
    refine takeH 8 6 (u4) hHeld rfl rfl (by kernel_rfl) (by kernel_rfl) (by kernel_rfl) (fun _ _ _ h => h) (Or.inl ⟨by rfl, fun w _ => by go_simp⟩) ?_
    simp only [Act.put, List.setIfInBounds_toArray, List.set_cons_zero, List.set_cons_succ]
    refine wpAnyH_done (by kernel_rfl) ?_ _
    refine NoPanic.normal ?_
    clear hHeld
    go_wp2
    go_ret
    exact ⟨_, rfl, ⟨_, ho4.base (Nat.le_trans B6.out.size B0.out.size)⟩, B6.out.trans (B4.out.mono B6.out.size)⟩

/-- What Inclusion answers: an error, or the proof. -/
def inE (n : Nat) (i m : Int) : Int := if m < 1 ∨ (n : Int) < m ∨ i < 0 ∨ m ≤ i then 40 else 0
def inP (xs : List Int) (n : Nat) (i m : Int) : List Int := if m < 1 ∨ (n : Int) < m ∨ i < 0 ∨ m ≤ i then [] else path (sub xs 0 m.toNat) i.toNat
theorem inP_bd {xs : List Int} {n : Nat} (i m : Int) (h : xs.length = 32 * n) (hb : isB xs) (hn : n < 2 ^ 63) : (∃ q, (inP xs n i m).length = 32 * q ∧ q ≤ 64) ∧ isB (inP xs n i m) := by
  unfold inP
  split
  · exact ⟨⟨0, rfl, by omega⟩, by intro x hx; simp at hx⟩
  · obtain ⟨⟨q, hq, hl⟩, hB⟩ := path_bd _ (m.toNat - 0) i.toNat (sub xs 0 m.toNat) (Nat.le_refl _) (by omega) (sub_length h (by omega) (by omega)) (by omega) (sub_isB hb _ _) (by omega)
    have := Lib.bitLen_le (m.toNat - 0 - 1) 64 (Nat.le_refl _) (by omega)
    exact ⟨⟨q, hq, by omega⟩, hB⟩
section
variable {dst : Option Tmp} {ty : TypeId} {pos : String} {aft : Array Edge} {gd : Option (Nat × Bool)} {ops : Array Oper} {rest : List Oper} {a : Act} {w : World} {Q : Exit → Act → World → Prop}
/-- A value of one cell gets a place of its own. -/
theorem step_box1 {T : TypeId} {x : Operand} {v : Value} (hw : Region.wanted ⟨dst, .box T x, ty, pos, aft, gd⟩ (yielded ops a.tmps) = true) (hx : a.eval x = v) (hv : v.cells = #[v])
    (h : ∀ w1 g, Blk w1 g T [v] → w.heap.size ≤ g → Below w.heap.size w w1 → wpList Tryd.prog ops Q rest (a.put dst (.pointer (some ⟨g, 0, none⟩))) w1) :
    wpList Tryd.prog ops Q (⟨dst, .box T x, ty, pos, aft, gd⟩ :: rest) a w :=
  step_run hw (.pointer (some ⟨w.heap.size, 0, none⟩)) (w.alloc (.cells [v].toArray T))
    (by simp [execOp, hx, Instr.box, newVar, newRow, Result.andThen, hv]) (h _ _ (Blk.made _ _ _) (Nat.le_refl _) ((Below.refl _ _).alloc (Nat.le_refl _) _))
end
theorem zFn : Zeroed 70 [.nilFunc] := fun _ _ _ _ _ _ _ => by kernel_rfl

end Go.Proofs.YtconeobaohmbnaaDoor

/-
  A tree's own inclusion proof leads to its root. No program here.
-/
namespace Go.Proofs.YtconeobaohmbnaaDoor
open Go.RowKit
set_option linter.unusedVariables false

theorem dat_last (P R : List Int) (q : Nat) (hP : P.length = 32 * q) (hR : R.length = 32) : dat (P ++ R) q = R ∧ (P ++ R).take (32 * q) = P := by
  refine ⟨?_, ?_⟩
  · unfold dat
    rw [← hP, List.drop_left, List.take_of_length_le (by omega)]
  · rw [← hP, List.take_left]
theorem sub_one {xs : List Int} {n : Nat} (h : xs.length = 32 * n) (i : Nat) (hi' : i < n) : sub xs i (i + 1) = dat xs i ∧ (sub xs i (i + 1)).length = 32 := by
  refine ⟨by simp [sub, dat], ?_⟩
  rw [sub_length h (by omega) (by omega)]
  omega
theorem path_leads {xs : List Int} {N i : Nat} (hx : xs.length = 32 * N) (hxb : isB xs) (hN : N ≤ 281474976710656) : ∀ (f b n : Nat), n ≤ f → b ≤ i → i < b + n → b + n ≤ N →
    (path (sub xs b (b + n)) (i - b)).length = 32 * (hvL i b n).length ∧ fu (hvL i b n) (path (sub xs b (b + n)) (i - b)) (dat xs i) (hvL i b n).length = root (sub xs b (b + n))
  | 0, b, n, h, _, _, _ => by omega
  | f + 1, b, n, h, h1, h2, h3 => by
    have hsl := sub_length hx (show b ≤ b + n by omega) h3
    rw [show b + n - b = n by omega] at hsl
    by_cases hn : n = 1
    · subst hn
      obtain rfl : b = i := by omega
      obtain ⟨e1, e2⟩ := sub_one hx b (by omega)
      rw [hvL_one, path_one e2, root_one e2, e1]
      exact ⟨rfl, rfl⟩
    · have hn2 : 2 ≤ n := by omega
      have hh := hf_bd n hn2 (by omega)
      have e : b + n - b = n := by omega
      have hlo := sub_lo hx (show b ≤ b + n by omega) h3 (by omega) (by omega)
      have hhi := sub_hi hx (show b ≤ b + n by omega) h3 (by omega) (by omega)
      rw [e] at hlo hhi
      have hrn := root_node hsl hn2 (by omega)
      rw [hlo, hhi] at hrn
      by_cases hc : i < b + hf n
      · obtain ⟨i1, i2⟩ := path_leads (i := i) hx hxb hN f b (hf n) (by omega) h1 hc (by omega)
        have hR : (root (sub xs (b + hf n) (b + n))).length = 32 := root_length (sub_length hx (by omega) h3) (sub_isB hxb _ _)
        rw [hvL_lo hn2 (by omega) h1 hc, path_lo (i := i - b) hsl hn2 (by omega) (by omega), hlo, hhi, List.length_append, List.length_append, i1, hR, List.length_singleton]
        obtain ⟨d1, d2⟩ := dat_last _ _ _ i1 hR
        refine ⟨by omega, ?_⟩
        rw [fu_snoc, d1, d2, i2, hrn]
        rfl
      · obtain ⟨i1, i2⟩ := path_leads (i := i) hx hxb hN f (b + hf n) (n - hf n) (by omega) (by omega) (by omega) (by omega)
        rw [show b + hf n + (n - hf n) = b + n by omega] at i1 i2
        have hR : (root (sub xs b (b + hf n))).length = 32 := root_length (sub_length hx (show b ≤ b + hf n by omega) (show b + hf n ≤ N by omega)) (sub_isB hxb _ _)
        rw [hvL_hi hn2 (by omega) h2 hc, path_hi (i := i - b) hsl hn2 (by omega) (by omega), hlo, hhi, show i - b - hf n = i - (b + hf n) by omega, List.length_append, List.length_append, i1, hR, List.length_singleton]
        obtain ⟨d1, d2⟩ := dat_last _ _ _ i1 hR
        refine ⟨by omega, ?_⟩
        rw [fu_snoc, d1, d2, i2, hrn]
        rfl
/-- .. of the first n leaves. -/
theorem path_root {xs : List Int} {N i n : Nat} (hx : xs.length = 32 * N) (hxb : isB xs) (hN : N ≤ 281474976710656) (hi' : i < n) (hn : n ≤ N) :
    (path (sub xs 0 n) i).length = 32 * (hvL i 0 n).length ∧ fu (hvL i 0 n) (path (sub xs 0 n) i) (dat xs i) (hvL i 0 n).length = root (sub xs 0 n) := by
  have := path_leads hx hxb hN n 0 n (Nat.le_refl _) (Nat.zero_le i) (by omega) (by omega)
  rwa [Nat.zero_add, Nat.sub_zero] at this

end Go.Proofs.YtconeobaohmbnaaDoor

/-
  The document's steps.
-/
namespace Go.Proofs.YtconeobaohmbnaaDoor
open Go.RowKit
set_option linter.unusedVariables false

section
variable {dst : Option Tmp} {ty : TypeId} {pos : String} {aft : Array Edge} {gd : Option (Nat × Bool)} {ops : Array Oper} {rest : List Oper} {a : Act} {w : World} {Q : Exit → Act → World → Prop}
set_option maxRecDepth 100000 in
theorem step_oneD {x : Operand} {ds : List Int} (hw : Region.wanted ⟨dst, .buildSlice 24 1 #[(0, x)], ty, pos, aft, gd⟩ (yielded ops a.tmps) = true) (hx : a.eval x = .agg (u8s ds).toArray) (hd : ds.length = 32)
    (h : ∀ w1 v, DOwn w1 w.heap.size v 1 ds → Below w.heap.size w w1 → wpList Tryd.prog ops Q rest (a.put dst v) w1) :
    wpList Tryd.prog ops Q (⟨dst, .buildSlice 24 1 #[(0, x)], ty, pos, aft, gd⟩ :: rest) a w := by
  refine step_run hw (.slice (some ⟨w.heap.size, 0, none⟩) 1 1) (w.alloc (.cells (u8s ds).toArray 23)) ?_ (h _ _ ⟨by rw [u8s_length, hd], .inr ⟨w.heap.size, 1, (u8s ds).toArray, rfl, Nat.le_refl _, Blk.made w _ _, Nat.le_refl _, by unfold maxLen; omega, by simp [u8s_length, hd], List.take_of_length_le (by simp [u8s_length, hd])⟩⟩ ((Below.refl _ _).alloc (Nat.le_refl _) _))
  unfold execOp
  simp only [List.map_toArray, List.map_cons, List.map_nil, hx]
  simp only [Sem.run_bind, build_D ds hd, Result.andThen_ok, Sem.run_pure]
end


end Go.Proofs.YtconeobaohmbnaaDoor

/-
  The program's Consistency: the closure that tells the proof of a beginning; the document's Consistency.
-/
namespace Go.Proofs.YtconeobaohmbnaaDoor
open Go.RowKit
set_option linter.unusedVariables false

/-- What the closure of Consistency holds: the span of the beginning, its size, the leaves, itself. -/
structure Enc (w : World) (gl gi gd gp m bl o n cap : Nat) (xs : List Int) : Prop where
  leaf : Blk w gl 69 (spn 0 m)
  at' : Blk w gi 3 [.int .i64 (m : Int)]
  self : Blk w gp 70 [.func (.func 38) #[] #[.pointer (some ⟨gl, 0, none⟩), .pointer (some ⟨gi, 0, none⟩), .pointer (some ⟨gd, 0, none⟩), .pointer (some ⟨gp, 0, none⟩)]]
  var : Blk w gd 24 [.slice (some ⟨bl, o, none⟩) n cap]
  ds : Ds w (some ⟨bl, o, none⟩) n cap xs
  kt : KT w
theorem Enc.below {w w' : World} {gl gi gd gp m bl o n cap : Nat} {xs : List Int} (h : Enc w gl gi gd gp m bl o n cap xs) (hb : Below w.heap.size w w') : Enc w' gl gi gd gp m bl o n cap xs :=
  ⟨h.leaf.below hb h.leaf.lt, h.at'.below hb h.at'.lt, h.self.below hb h.self.lt, h.var.below hb h.var.lt, h.ds.below hb, h.kt.below hb h.kt.lt⟩

/-- Is the span a beginning? -/
def beg (b : Nat) : Bool := b == 0

set_option maxRecDepth 100000 in
set_option maxHeartbeats 4000000 in
theorem cons1_any (gl gi gd gp m bl o n cap : Nat) (xs : List Int) (hm0 : 0 < m) : ∀ (f b e : Nat) (w : World), e - b ≤ f → b < m → m ≤ e → e ≤ n → Enc w gl gi gd gp m bl o n cap xs →
    Calls Tryd.prog 38 #[.agg (spn b e).toArray, .pointer (some ⟨gl, 0, none⟩), .pointer (some ⟨gi, 0, none⟩), .pointer (some ⟨gd, 0, none⟩), .pointer (some ⟨gp, 0, none⟩)] w
      fun r w' => ∃ v, r = .returned v ∧ (∃ q, DOwn w' w.heap.size v q (steps (sub xs b e) (m - b) (beg b))) ∧ Below w.heap.size w w' := by
  intro f
  induction f with
  | zero => intro b e w hfu hb hme hen hE; omega
  | succ f ih =>
    intro b e w hfu hb hme hen hE
    have hre := hE.ds.hreach
    have hx := hE.ds.hlen
    have hxb := hE.ds.hbyte
    have hsl := sub_length hx (show b ≤ e by omega) hen
    have hsb := sub_isB hxb b e
    by_cases h1 : e = m
    · subst h1
      by_cases h0 : b = 0
      · subst h0
        have EP := hide (show steps (sub xs 0 e) (e - 0) (beg 0) = [] from steps_all (wh := true) hsl (by omega))
        rw [EP.out]
        have HE := hide hE
        clear hE hx hxb hsl hsb
        go_enter Tryd.func38, Tryd.ntmps38
        go_wp2_with (refine step_box (cs := spn 0 e) rfl rfl ?_)
        intro w1 g5 hr1 hl1 hb1
        have G5 := hide hr1
        have GL := hide (HE.out.leaf.below hb1 HE.out.leaf.lt)
        clear hr1
        go_wp2_with (first | (refine step_loadA wSp rfl rfl G5.out rfl ?_) | (refine step_loadA wSp rfl rfl GL.out rfl ?_) | (refine step_eqSp true (by simp) rfl rfl rfl ?_))
        go_ret
        exact ⟨_, rfl, ⟨0, DOwn.nil _ _⟩, hb1⟩
      · have hbg : beg b = false := by unfold beg; simp [h0]
        have EP := hide (show steps (sub xs b e) (e - b) (beg b) = root (sub xs b e) by rw [hbg]; exact steps_all (wh := false) hsl (by omega))
        have HRL := hide (root_length hsl hsb)
        rw [EP.out]
        have HE := hide hE
        clear hE hx hxb hsl hsb
        go_enter Tryd.func38, Tryd.ntmps38
        go_wp2_with (refine step_box (cs := spn b e) rfl rfl ?_)
        intro w1 g5 hr1 hl1 hb1
        have G5 := hide hr1
        have E1 := hide (HE.out.below hb1)
        have GL := hide E1.out.leaf
        have B1 := hide hb1
        have hci : w1.cell? ⟨gi, 0, none⟩ = some (.int .i64 (e : Int)) := by rw [E1.out.at'.cell]; rfl
        have hcd : w1.cell? ⟨gd, 0, none⟩ = some (.slice (some ⟨bl, o, none⟩) n cap) := by rw [E1.out.var.cell]; rfl
        have hc5 : w1.cell? ⟨g5, 1, none⟩ = some (.int .i64 (e : Int)) := by rw [G5.out.cell]; rfl
        clear hr1 hb1
        go_wp2_with (first | (refine step_loadA wSp rfl rfl G5.out rfl ?_) | (refine step_loadA wSp rfl rfl GL.out rfl ?_) | (refine step_eqSp false (by symm; rw [decide_eq_false_iff_not]; omega) rfl rfl rfl ?_))
        refine (rootOf_any bl o n cap b e _ _ xs _ E1.out.ds rfl rfl hb hen E1.out.kt).mono ?_
        rintro r w2 ⟨rfl, hb2⟩
        go_wp2_with (refine step_oneD rfl rfl HRL.out ?_; intro w3 v3 ho3 hb3)
        go_ret
        exact ⟨_, rfl, ⟨_, ho3.base (Nat.le_trans B1.out.size hb2.size)⟩, B1.out.trans ((hb2.trans (hb3.mono hb2.size)).mono B1.out.size)⟩
    have h2 : 2 ≤ e - b := by omega
    have hbd := hf_bd (e - b) h2 (by omega)
    have ELO := hide (sub_lo hx (by omega) hen h2 (by omega))
    have EHI := hide (sub_hi hx (by omega) hen h2 (by omega))
    obtain ⟨b1, e1, b2, e2, hr, EP0, hb1i, hi1e, he1n, hlt1, hb2, he2⟩ : ∃ b1 e1 b2 e2, ((m - 1 < b + hf (e - b) ∧ b1 = b ∧ e1 = b + hf (e - b) ∧ b2 = b + hf (e - b) ∧ e2 = e) ∨ (b + hf (e - b) ≤ m - 1 ∧ b1 = b + hf (e - b) ∧ e1 = e ∧ b2 = b ∧ e2 = b + hf (e - b))) ∧
        steps (sub xs b e) (m - b) (beg b) = steps (sub xs b1 e1) (m - b1) (beg b1) ++ root (sub xs b2 e2) ∧ b1 < m ∧ m ≤ e1 ∧ e1 ≤ n ∧ e1 - b1 ≤ f ∧ b2 < e2 ∧ e2 ≤ n := by
      by_cases hlt : m - 1 < b + hf (e - b)
      · refine ⟨b, b + hf (e - b), b + hf (e - b), e, .inl ⟨hlt, rfl, rfl, rfl, rfl⟩, ?_, by omega, by omega, by omega, by omega, by omega, by omega⟩
        rw [steps_lo hsl (by omega) (by omega) (by omega) (by omega), ELO.out, EHI.out]
      · refine ⟨b + hf (e - b), e, b, b + hf (e - b), .inr ⟨by omega, rfl, rfl, rfl, rfl⟩, ?_, by omega, by omega, by omega, by omega, by omega, by omega⟩
        have hbg : beg (b + hf (e - b)) = false := by unfold beg; simp; omega
        rw [steps_hi hsl (by omega) (by omega) (by omega), ELO.out, EHI.out, show m - b - hf (e - b) = m - (b + hf (e - b)) by omega, hbg]
    have EP := hide EP0
    have HL2 := hide (root_length (sub_length hx (show b2 ≤ e2 by omega) he2) (sub_isB hxb b2 e2))
    have HB2 := hide (root_isB (sub_length hx (show b2 ≤ e2 by omega) he2) (sub_isB hxb b2 e2))
    have PB : Hid ((steps (sub xs b1 e1) (m - b1) (beg b1)).length ≤ 2080) := hide (by
      obtain ⟨⟨q, hq, hl⟩, _⟩ := steps_bd _ (e1 - b1) (m - b1) (beg b1) (sub xs b1 e1) (Nat.le_refl _) (by omega) (by omega) (sub_length hx (by omega) he1n) (by omega) (sub_isB hxb b1 e1)
      have := Lib.bitLen_le (e1 - b1 - 1) 64 (Nat.le_refl _) (by omega)
      omega)
    have HR := hide hr
    have HE := hide hE
    have hem : ¬ ((e : Int) = (m : Int)) := by omega
    have hm1 : (m : Int) - 1 = ((m - 1 : Nat) : Int) := by omega
    have HM1 := hide hm1
    clear hE hr EP0 ELO EHI hx hxb hsl hsb hm1
    go_enter Tryd.func38, Tryd.ntmps38
    go_wp2_with (refine step_box (cs := spn b e) rfl rfl ?_)
    intro w1 g5 hr1 hl1 hbw1
    have G5 := hide hr1
    have E1 := hide (HE.out.below hbw1)
    have B1 := hide hbw1
    have GL := hide E1.out.leaf
    have hci : w1.cell? ⟨gi, 0, none⟩ = some (.int .i64 (m : Int)) := by rw [E1.out.at'.cell]; rfl
    have hc5 : w1.cell? ⟨g5, 1, none⟩ = some (.int .i64 (e : Int)) := by rw [G5.out.cell]; rfl
    clear hr1 hbw1
    go_wp2_with (first | (refine step_loadA wSp rfl rfl G5.out rfl ?_) | (refine step_loadA wSp rfl rfl GL.out rfl ?_) | (refine step_eqSp false (by symm; rw [decide_eq_false_iff_not]; omega) rfl rfl rfl ?_))
    refine (halves_any b e (m - 1) (hf (e - b)) _ _ HM1.out h2 (by omega) (by omega) rfl b1 e1 b2 e2 HR.out).mono ?_
    rintro r w2 ⟨rfl, hb2w⟩
    have E2 := hide (E1.out.below hb2w)
    have B2 := hide (B1.out.trans (hb2w.mono B1.out.size))
    clear hb2w E1 G5 GL hci hc5 B1 hl1
    go_wp2_with (refine step_alloc zSp rfl ?_)
    intro w3 g7 hr3 hl3 hb3
    have G7 := hide hr3
    clear hr3
    go_wp2_with (refine step_alloc zSp rfl ?_)
    intro w4 g8 hr4 hl4 hb4
    have G8 := hide hr4
    have G74 := hide (G7.out.below hb4 G7.out.lt)
    have n78 : g7 ≠ g8 := by have := G7.out.lt; omega
    have B24 := hide (hb3.trans (hb4.mono hb3.size))
    have h28 : w2.heap.size ≤ g8 := Nat.le_trans hb3.size hl4
    clear hr4 hb3 hb4 G7
    go_wp2_with (refine step_storeA (vs := spn b1 e1) wSp rfl rfl rfl G74.out rfl (spn_one _ _) rfl ?_)
    intro w5 hg5 hbut5
    have G85 := hide (G8.out.but hbut5 n78.symm)
    have G75 := hide hg5
    have B25 := hide (B24.out.trans (hbut5.below hl3))
    clear hg5 hbut5 G8 G74 B24
    go_wp2_with (refine step_storeA (vs := spn b2 e2) wSp rfl rfl rfl G85.out rfl (spn_one _ _) rfl ?_)
    intro w6 hg6 hbut6
    have G86 := hide hg6
    have G76 := hide (G75.out.but hbut6 n78)
    have B26 := hide (B25.out.trans (hbut6.below h28))
    have E6 := hide (E2.out.below B26.out)
    have B6 := hide (B2.out.trans (B26.out.mono B2.out.size))
    clear hg6 hbut6 G85 G75 B25 E2 B26 B2 hl3 hl4
    have hu := Tryd.underlying69
    have hSS : ∀ v : World, Below w6.heap.size w6 v → v.cell? ⟨gp, 0, none⟩ = some (.func (.func 38) #[] #[.pointer (some ⟨gl, 0, none⟩), .pointer (some ⟨gi, 0, none⟩), .pointer (some ⟨gd, 0, none⟩), .pointer (some ⟨gp, 0, none⟩)]) ∧ v.rangeAt g7 0 (spn b1 e1) ∧ v.cell? ⟨gd, 0, none⟩ = some (.slice (some ⟨bl, o, none⟩) n cap) ∧ v.rangeAt g8 0 (spn b2 e2) := fun v hv =>
      ⟨by rw [(E6.out.below hv).self.cell]; rfl, (G76.out.below hv G76.out.lt).range 0 _ (by simp [spn]), by rw [(E6.out.below hv).var.cell]; rfl, (G86.out.below hv G86.out.lt).range 0 _ (by simp [spn])⟩
    go_wp2_with fail
    refine wp_region_noPanic ?_
    have B0 := hide ((Below.refl w6.heap.size w6).drew)
    refine wp_region_held_drew (S := fun v : World => v.cell? ⟨gp, 0, none⟩ = some (.func (.func 38) #[] #[.pointer (some ⟨gl, 0, none⟩), .pointer (some ⟨gi, 0, none⟩), .pointer (some ⟨gd, 0, none⟩), .pointer (some ⟨gp, 0, none⟩)]) ∧ v.rangeAt g7 0 (spn b1 e1) ∧ v.cell? ⟨gd, 0, none⟩ = some (.slice (some ⟨bl, o, none⟩) n cap) ∧ v.rangeAt g8 0 (spn b2 e2)) (by kernel_rfl) (hSS _ B0.out) (fun hHeld => ?_)
    refine takeH 0 27 (.func (.func 38) #[] #[.pointer (some ⟨gl, 0, none⟩), .pointer (some ⟨gi, 0, none⟩), .pointer (some ⟨gd, 0, none⟩), .pointer (some ⟨gp, 0, none⟩)]) hHeld rfl rfl (by kernel_rfl) (by kernel_rfl) (by kernel_rfl) (fun _ _ _ h => h) (Or.inl ⟨by rfl, fun w hw => by have hw' := hw.1; go_simp⟩) ?_
    simp only [Act.put, List.setIfInBounds_toArray, List.set_cons_zero, List.set_cons_succ]
    refine takeH 1 28 (.agg (spn b1 e1).toArray) hHeld rfl rfl (by kernel_rfl) (by kernel_rfl) (by kernel_rfl) (fun _ _ _ h => h) (yieldsIf_load_mid (by rfl) _ _ rfl g7 0 rfl _ _ (fun w h => h.2.1) hu rfl wSp.size) ?_
    simp only [Act.put, List.setIfInBounds_toArray, List.set_cons_zero, List.set_cons_succ]
    refine takeH 3 30 (.slice (some ⟨bl, o, none⟩) n cap) hHeld rfl rfl (by kernel_rfl) (by kernel_rfl) (by kernel_rfl) (fun _ _ _ h => h) (Or.inl ⟨by rfl, fun w hw => by have hw' := hw.2.2.1; go_simp⟩) ?_
    simp only [Act.put, List.setIfInBounds_toArray, List.set_cons_zero, List.set_cons_succ]
    refine takeH 4 31 (.agg (spn b2 e2).toArray) hHeld rfl rfl (by kernel_rfl) (by kernel_rfl) (by kernel_rfl) (fun _ _ _ h => h) (yieldsIf_load_mid (by rfl) _ _ rfl g8 0 rfl _ _ (fun w h => h.2.2.2) hu rfl wSp.size) ?_
    simp only [Act.put, List.setIfInBounds_toArray, List.set_cons_zero, List.set_cons_succ]
    refine wpAnyH_ready (rs := [2]) (by kernel_rfl) (by simp) (AllReadyH.cons rfl (fun K hK => ?_) AllReadyH.nil)
    rw [if_pos (by rfl)]
    go_simp
    refine (ih b1 e1 _ hlt1 hb1i hi1e he1n (E6.out.below B0.out)).mono ?_
    rintro r v1 ⟨u1, rfl, ⟨q1, ho1⟩, hv1⟩
    have B1 := hide (B0.out.trans (hv1.mono B0.out.size))
    refine hK.out _ _ (hSS _ B1.out) (fun hHeld => ?_)
    clear hK K
    refine wpAnyH_ready (rs := [5]) (by kernel_rfl) (by simp) (AllReadyH.cons rfl (fun K hK => ?_) AllReadyH.nil)
    rw [if_pos (by rfl)]
    go_simp
    refine (rootOf_any bl o n cap b2 e2 _ _ xs _ (E6.out.below B1.out).ds rfl rfl hb2 he2 (E6.out.below B1.out).kt).mono ?_
    rintro r v2 ⟨rfl, hv2⟩
    have B2 := hide (B1.out.trans (hv2.mono B1.out.size))
    have ho2 := ho1.below hv2
    refine hK.out _ _ (hSS _ B2.out) (fun hHeld => ?_)
    clear hK K
    refine wpAnyH_ready (rs := [6]) (by kernel_rfl) (by simp) (AllReadyH.cons rfl (fun K hK => ?_) AllReadyH.nil)
    rw [if_pos (by rfl)]
    refine wp_oneD rfl HL2.out HB2.out ?_
    intro v3 gq hsq hv3
    have B3 := hide (B2.out.trans (hv3.mono B2.out.size))
    have ho3 := ho2.below hv3
    refine hK.out _ _ (hSS _ B3.out) (fun hHeld => ?_)
    clear hK K
    simp only [Act.put]
    refine wpAnyH_ready (rs := [7]) (by kernel_rfl) (by simp) (AllReadyH.cons rfl (fun K hK => ?_) AllReadyH.nil)
    rw [if_pos (by rfl)]
    have hq1 : 32 * q1 = (steps (sub xs b1 e1) (m - b1) (beg b1)).length := ho3.len.symm
    refine wp_appendDG rfl rfl ho3 hsq (by have := PB.out; omega) (Nat.le_trans hv1.size (Nat.le_trans hv2.size hv3.size)) ?_
    intro u4 v4 ho4 hg4
    have B4 := hide (B3.out.trans (Below.of_grown hg4 B3.out.size (fun k hk => Nat.le_trans B0.out.size (ho3.lt k hk))))
    rw [← EP.out] at ho4
    refine hK.out _ _ (hSS _ B4.out) (fun hHeld => ?_)
    clear hK K
    simp only [Act.put]
    refine takeH 8 6 (u4) hHeld rfl rfl (by kernel_rfl) (by kernel_rfl) (by kernel_rfl) (fun _ _ _ h => h) (Or.inl ⟨by rfl, fun w _ => by go_simp⟩) ?_
    simp only [Act.put, List.setIfInBounds_toArray, List.set_cons_zero, List.set_cons_succ]
    refine wpAnyH_done (by kernel_rfl) ?_ _
    refine NoPanic.normal ?_
    clear hHeld
    go_wp2
    go_ret
    exact ⟨_, rfl, ⟨_, ho4.base (Nat.le_trans B6.out.size B0.out.size)⟩, B6.out.trans (B4.out.mono B6.out.size)⟩

/-- What Consistency answers. -/
def coE (n : Nat) (m l : Int) : Int := if m < 1 ∨ l < m ∨ (n : Int) < l then 40 else 0
def coP (xs : List Int) (n : Nat) (m l : Int) : List Int := if m < 1 ∨ l < m ∨ (n : Int) < l then [] else steps (sub xs 0 l.toNat) m.toNat true
theorem coP_bd {xs : List Int} {n : Nat} (m l : Int) (h : xs.length = 32 * n) (hb : isB xs) (hn : n < 2 ^ 63) : (∃ q, (coP xs n m l).length = 32 * q ∧ q ≤ 65) ∧ isB (coP xs n m l) := by
  unfold coP
  split
  · exact ⟨⟨0, rfl, by omega⟩, by intro x hx; simp at hx⟩
  · obtain ⟨⟨q, hq, hl⟩, hB⟩ := steps_bd _ (l.toNat - 0) m.toNat true (sub xs 0 l.toNat) (Nat.le_refl _) (by omega) (by omega) (sub_length h (by omega) (by omega)) (by omega) (sub_isB hb _ _)
    have := Lib.bitLen_le (l.toNat - 0 - 1) 64 (Nat.le_refl _) (by omega)
    exact ⟨⟨q, hq, by omega⟩, hB⟩


end Go.Proofs.YtconeobaohmbnaaDoor

/-
  A tree's own consistency proof leads to both roots. No program here.
-/
namespace Go.Proofs.YtconeobaohmbnaaDoor
open Go.RowKit
set_option linter.unusedVariables false

theorem st0_app (T q : Nat) (d S R : List Int) (hS : S.length = 32 * (q + T)) : st0 T d (S ++ R) = st0 T d S := by
  have := st0_take T q d (S ++ R)
  rw [← this]
  congr 1
  rw [← hS, List.take_left]
theorem beg_pos {b : Nat} (h : 0 < b) : beg b = false := by unfold beg; simp; omega
theorem steps_lead {xs : List Int} {N m : Nat} (hx : xs.length = 32 * N) (hxb : isB xs) (hN : N ≤ 281474976710656) (hm : 1 ≤ m) (hmN : m ≤ N) : ∀ (f b n : Nat), n ≤ f → b < m → m ≤ b + n → b + n ≤ N →
    (steps (sub xs b (b + n)) (m - b) (beg b)).length = 32 * ((hvM m b n).length + ptM m b n) ∧
    fo (hvM m b n) ((steps (sub xs b (b + n)) (m - b) (beg b)).drop (32 * ptM m b n)) (st0 (ptM m b n) (root (sub xs 0 m)) (steps (sub xs b (b + n)) (m - b) (beg b))) (hvM m b n).length = root (sub xs b m) ∧
    fu (hvM m b n) ((steps (sub xs b (b + n)) (m - b) (beg b)).drop (32 * ptM m b n)) (st0 (ptM m b n) (root (sub xs 0 m)) (steps (sub xs b (b + n)) (m - b) (beg b))) (hvM m b n).length = root (sub xs b (b + n))
  | 0, b, n, h, _, _, _ => by omega
  | f + 1, b, n, h, h1, h2, h3 => by
    have hsl := sub_length hx (show b ≤ b + n by omega) h3
    rw [show b + n - b = n by omega] at hsl
    by_cases hn : b + n = m
    · obtain ⟨e1, e2⟩ := hvM_end hn
      have e3 : m - b = n := by omega
      rw [e1, e2, e3, steps_all hsl (by omega)]
      by_cases hb : b = 0
      · subst hb
        rw [if_pos rfl, show beg 0 = true from rfl, if_pos rfl]
        refine ⟨rfl, ?_, ?_⟩
        · rfl
        · show root (sub xs 0 m) = _
          rw [hn]
      · have hR : (root (sub xs b (b + n))).length = 32 := root_length hsl (sub_isB hxb _ _)
        rw [if_neg hb, beg_pos (by omega), if_neg (by decide)]
        have hd : st0 1 (root (sub xs 0 m)) (root (sub xs b (b + n))) = root (sub xs b (b + n)) := by
          show dat _ 0 = _
          unfold dat
          rw [Nat.mul_zero, List.drop_zero, List.take_of_length_le (by omega)]
        rw [hd]
        refine ⟨hR, ?_, rfl⟩
        show root (sub xs b (b + n)) = _
        rw [hn]
    · have hn2 : 2 ≤ n := by omega
      have hh := hf_bd n hn2 (by omega)
      have e : b + n - b = n := by omega
      have hlo := sub_lo hx (show b ≤ b + n by omega) h3 (by omega) (by omega)
      have hhi := sub_hi hx (show b ≤ b + n by omega) h3 (by omega) (by omega)
      rw [e] at hlo hhi
      have hrn := root_node hsl hn2 (by omega)
      rw [hlo, hhi] at hrn
      by_cases hc : m - 1 < b + hf n
      · obtain ⟨i1, i2, i3⟩ := steps_lead hx hxb hN hm hmN f b (hf n) (by omega) h1 (by omega) (by omega)
        have hR : (root (sub xs (b + hf n) (b + n))).length = 32 := root_length (sub_length hx (by omega) h3) (sub_isB hxb _ _)
        obtain ⟨e1, e2⟩ := hvM_lo hm hn hn2 (by omega) h1 hc
        rw [e1, e2, steps_lo (m := m - b) hsl (by omega) (by omega) (by omega) (by omega), hlo, hhi, st0_app _ _ _ _ _ i1, show (hvM m b (hf n) ++ [(0 : Int)]).length = (hvM m b (hf n)).length + 1 by simp, List.length_append, i1, hR]
        obtain ⟨d1, d2⟩ := dat_last _ _ _ i1 hR
        obtain ⟨s1, s2⟩ := step_lo (hvM m b (hf n)) (steps (sub xs b (b + hf n)) (m - b) (beg b) ++ root (sub xs (b + hf n) (b + n))) (st0 (ptM m b (hf n)) (root (sub xs 0 m)) (steps (sub xs b (b + hf n)) (m - b) (beg b))) (ptM m b (hf n))
        rw [d2] at s1 s2
        rw [d1] at s2
        refine ⟨by omega, ?_, ?_⟩
        · rw [s1, i2]
        · rw [s2, i3, hrn]
      · obtain ⟨i1, i2, i3⟩ := steps_lead hx hxb hN hm hmN f (b + hf n) (n - hf n) (by omega) (by omega) (by omega) (by omega)
        rw [show b + hf n + (n - hf n) = b + n by omega, beg_pos (show 0 < b + hf n by omega)] at i1 i2 i3
        have hR : (root (sub xs b (b + hf n))).length = 32 := root_length (sub_length hx (show b ≤ b + hf n by omega) (show b + hf n ≤ N by omega)) (sub_isB hxb _ _)
        obtain ⟨e1, e2⟩ := hvM_hi hm hn hn2 (by omega) h2 h1 hc
        rw [e1, e2, steps_hi (m := m - b) hsl (by omega) (by omega) (by omega), hlo, hhi, show m - b - hf n = m - (b + hf n) by omega, st0_app _ _ _ _ _ i1, show (hvM m (b + hf n) (n - hf n) ++ [(1 : Int)]).length = (hvM m (b + hf n) (n - hf n)).length + 1 by simp, List.length_append, i1, hR]
        obtain ⟨d1, d2⟩ := dat_last _ _ _ i1 hR
        obtain ⟨s1, s2⟩ := step_hi (hvM m (b + hf n) (n - hf n)) (steps (sub xs (b + hf n) (b + n)) (m - (b + hf n)) false ++ root (sub xs b (b + hf n))) (st0 (ptM m (b + hf n) (n - hf n)) (root (sub xs 0 m)) (steps (sub xs (b + hf n) (b + n)) (m - (b + hf n)) false)) (ptM m (b + hf n) (n - hf n))
        rw [d2] at s1 s2
        rw [d1] at s1 s2
        have hm2 : 2 ≤ m - b := by omega
        have hfm : hf (m - b) = hf n := hf_uniq (m - b) (Lib.bitLen (n - 1) - 1) hm2 (by omega) (by show hf n < m - b; omega) (by show m - b ≤ 2 * hf n; omega)
        have hml := sub_length hx (show b ≤ m by omega) hmN
        have hrm := root_node hml hm2 (by omega)
        rw [sub_lo hx (by omega) hmN hm2 (by omega), sub_hi hx (by omega) hmN hm2 (by omega), hfm] at hrm
        refine ⟨by omega, ?_, ?_⟩
        · rw [s1, i2, hrm]
        · rw [s2, i3, hrn]
/-- .. of the first m and the first n leaves. -/
theorem steps_roots {xs : List Int} {N m n : Nat} (hx : xs.length = 32 * N) (hxb : isB xs) (hN : N ≤ 281474976710656) (hm : 1 ≤ m) (hmn : m ≤ n) (hn : n ≤ N) :
    (steps (sub xs 0 n) m true).length = 32 * ((hvM m 0 n).length + ptM m 0 n) ∧
    fo (hvM m 0 n) ((steps (sub xs 0 n) m true).drop (32 * ptM m 0 n)) (st0 (ptM m 0 n) (root (sub xs 0 m)) (steps (sub xs 0 n) m true)) (hvM m 0 n).length = root (sub xs 0 m) ∧
    fu (hvM m 0 n) ((steps (sub xs 0 n) m true).drop (32 * ptM m 0 n)) (st0 (ptM m 0 n) (root (sub xs 0 m)) (steps (sub xs 0 n) m true)) (hvM m 0 n).length = root (sub xs 0 n) := by
  have := steps_lead hx hxb hN hm (by omega) n 0 n (Nat.le_refl _) (by omega) (by omega) (by omega)
  rwa [Nat.zero_add, Nat.sub_zero, show beg 0 = true from rfl] at this

end Go.Proofs.YtconeobaohmbnaaDoor

/-
  What a log tells of one list of leaves is accepted: no program.
-/
namespace Go.Proofs.YtconeobaohmbnaaDoor
open Go.RowKit
set_option linter.unusedVariables false

theorem hon_acc {D X : List Int} {N m i : Nat} (hD : D.length = 32 * N) (hb : isB D) (hN : N ≤ 281474976710656) (hm : 1 ≤ m) (hmN : m ≤ N) (him : i < m) (hX : lf X = dat D i) (c : Cv) (e1 : c.m = (m : Int)) (e2 : c.n = (N : Int)) (e3 : c.i = (i : Int)) (e4 : c.o = root (sub D 0 m)) (e5 : c.nw = root (sub D 0 N))
    (e6 : c.ls = (hvM m 0 N).length + ptM m 0 N) (e7 : c.S = steps (sub D 0 N) m true) (e8 : c.X = X) (e9 : c.Y = X) (e10 : c.lo = (hvL i 0 m).length) (e11 : c.O = path (sub D 0 m) i) (e12 : c.ln = (hvL i 0 N).length) (e13 : c.N = path (sub D 0 N) i) : c.acc = true := by
  obtain ⟨s1, s2, s3⟩ := steps_roots hD hb hN hm hmN (Nat.le_refl N)
  obtain ⟨p1, p2⟩ := path_root hD hb hN him hmN
  obtain ⟨q1, q2⟩ := path_root hD hb hN (Nat.lt_of_lt_of_le him hmN) (Nat.le_refl N)
  have h1 : c.e1 = 0 := by
    unfold Cv.e1
    rw [e1, e2, e4, e5, e6, e7]
    exact conE_is hm hmN hN rfl s2 s3
  have h2 : c.b2 = true := by
    unfold Cv.b2 incB
    rw [e1, e3, e4, e8, e10, e11, incE_is him (Nat.le_trans hmN hN) rfl, hX, if_pos p2]
    rfl
  have h3 : c.b3 = true := by
    unfold Cv.b3 incB
    rw [e2, e3, e5, e9, e12, e13, incE_is (Nat.lt_of_lt_of_le him hmN) hN rfl, hX, if_pos q2]
    rfl
  unfold Cv.acc
  rw [h1, h2, h3]
  rfl
theorem hon_len {D : List Int} {N m i : Nat} (hD : D.length = 32 * N) (hb : isB D) (hN : N ≤ 281474976710656) (hm : 1 ≤ m) (hmN : m ≤ N) (him : i < m) :
    (steps (sub D 0 N) m true).length = 32 * ((hvM m 0 N).length + ptM m 0 N) ∧ (path (sub D 0 m) i).length = 32 * (hvL i 0 m).length ∧ (path (sub D 0 N) i).length = 32 * (hvL i 0 N).length :=
  ⟨(steps_roots hD hb hN hm hmN (Nat.le_refl N)).1, (path_root hD hb hN him hmN).1, (path_root hD hb hN (Nat.lt_of_lt_of_le him hmN) (Nat.le_refl N)).1⟩
/-- The digests of leaves, one behind the other. -/
def lfs (ps : List (List Int)) : List Int := (ps.map lf).flatten
theorem lfs_length (ps : List (List Int)) : (lfs ps).length = 32 * ps.length := by
  unfold lfs
  induction ps with
  | nil => rfl
  | cons p ps ih => simp only [List.map_cons, List.flatten_cons, List.length_append, List.length_cons, ih, lf_length]; omega
theorem lfs_isB (ps : List (List Int)) : isB (lfs ps) := by
  intro y hy
  unfold lfs at hy
  obtain ⟨l, hl, hy⟩ := List.mem_flatten.1 hy
  obtain ⟨p, _, rfl⟩ := List.mem_map.1 hl
  exact lf_isB p y hy
theorem lfs_succ (ps : List (List Int)) (j : Nat) (h : j < ps.length) : lfs (ps.take j) ++ lf (ps.getD j []) = lfs (ps.take (j + 1)) := by
  unfold lfs
  rw [List.take_succ_eq_append_getElem h, List.map_append, List.flatten_append]
  simp [List.getD, h]
theorem lfs_dat : ∀ (ps : List (List Int)) (i : Nat), i < ps.length → lf (ps.getD i []) = dat (lfs ps) i := by
  intro ps i h
  have e : lfs ps = lfs (ps.take i) ++ (lf (ps.getD i []) ++ lfs (ps.drop (i + 1))) := by
    rw [← List.append_assoc, lfs_succ ps i h]
    unfold lfs
    rw [← List.flatten_append, ← List.map_append, List.take_append_drop]
  unfold dat
  rw [e, List.drop_left' (by rw [lfs_length, List.length_take, Nat.min_eq_left (by omega)]), List.take_left' (lf_length _)]
theorem sub_all {D : List Int} {N : Nat} (hD : D.length = 32 * N) : sub D 0 N = D := by
  unfold sub
  rw [Nat.mul_zero, List.drop_zero, Nat.sub_zero, List.take_of_length_le (by omega)]
/-- A remainder made to lie in a range. -/
theorem rem_in (a : Int) (n : Nat) (hn : 0 < n) : ∃ k : Nat, k < n ∧ ((a.tmod n + n).tmod n) = (k : Int) ∧ -(n : Int) < a.tmod n ∧ a.tmod n < n := by
  have h1 : a.tmod n < n := Int.tmod_lt_of_pos a (by omega)
  have h2 : -(n : Int) < a.tmod n := by
    have := Int.lt_tmod_of_pos a (b := (n : Int)) (by omega)
    exact this
  have h3 : 0 ≤ (a.tmod n + n).tmod n := Int.tmod_nonneg _ (by omega)
  have h4 : (a.tmod n + n).tmod n < n := Int.tmod_lt_of_pos _ (by omega)
  exact ⟨((a.tmod n + n).tmod n).toNat, by omega, by omega, h2, h1⟩

end Go.Proofs.YtconeobaohmbnaaDoor

/-
  The law's honest.
-/
namespace Go.Proofs.YtconeobaohmbnaaDoor
open Go.RowKit
set_option linter.unusedVariables false

theorem Ds.mk' {B : Nat} {w w' : World} {a : Option Addr} {l c : Nat} {xs : List Int} (h : Ds w a l c xs) (hm : Mk B w w') : Ds w' a l c xs := ⟨h.hcap, h.hmax, h.hnil, h.sl.mk' hm⟩
theorem Cv.In.mk' {c : Cv} {B : Nat} {w w' : World} (h : c.In w) (hm : Mk B w w') : c.In w' := ⟨h.lo, h.bo, h.ln, h.bn, h.ds.mk' hm, h.sx.mk' hm, h.hx, h.sy.mk' hm, h.hy, h.dO.mk' hm, h.dN.mk' hm⟩
theorem freeze_cells (w : World) (g : Nat) (C : Array Value) (e : TypeId) (fr : Nat × Nat) (k : Nat) (h : w.heap[g]? = some (.cells C e fr)) : ∃ w', w.freeze ⟨g, k, none⟩ 1 = w' ∧ (∀ i, i ≠ g → w'.heap[i]? = w.heap[i]?) ∧ (∃ fr', w'.heap[g]? = some (.cells C e fr')) ∧ w'.heap.size = w.heap.size ∧ w'.os = w.os ∧ w'.tape = w.tape ∧ w'.output = w.output := by
  refine ⟨_, rfl, fun i hi => ?_, ?_, ?_, ?_, ?_, ?_⟩
  all_goals unfold World.freeze
  all_goals rw [if_neg (by decide)]
  · simp [Array.getElem?_modify, Ne.symm hi]
  · simp [Array.getElem?_modify, h]
  · simp
/-- A conversion of bytes to their own type lays a mark. -/
theorem conv_mark (w : World) (g n c B : Nat) (C : Array Value) (fr0 : Nat × Nat) (hg : w.heap[g]? = some (.cells C 5 fr0)) (hB : B ≤ g) : ∃ w', (convert 25 25 (.slice (some ⟨g, 0, none⟩) n c)).run Tryd.prog w = .ok (.slice (some ⟨g, 0, none⟩) n c) w' ∧ Mk B w w' := by
  have hsh : w.shape? g = some (5, C.size) := by
    unfold World.shape?
    rw [hg]
  obtain ⟨w', hw, h1, ⟨fr, h2⟩, h3, h4, h5, h6⟩ := freeze_cells w g C 5 fr0 C.size hg
  refine ⟨w', ?_, ⟨h4, h5, h6, Nat.le_of_eq h3.symm, fun k hk => h1 k (by omega)⟩, fun x v hx => ?_, fun k t cs ht hk => ?_, fun k D fr' hk => ?_⟩
  · simp [convert, run_underlying undBs, run_underlying undB, markStringish, hsh]
    exact hw
  · by_cases e : x.block = g
    · rw [← hx]
      unfold World.cell?
      rw [e, h2, hg]
    · rw [← hx]
      exact World.cell?_of_block (h1 _ e)
  · have hne : k ≠ g := by
      rintro rfl
      unfold Blk at hk
      rw [hg] at hk
      simp at hk
      exact ht hk.2.1.symm
    unfold Blk
    rw [h1 k hne]
    exact hk
  · by_cases e : k = g
    · subst e
      rw [hg] at hk
      simp at hk
      exact ⟨fr, by rw [h2, hk.1]⟩
    · exact ⟨fr', by rw [h1 k e]; exact hk⟩
set_option maxRecDepth 100000 in
theorem wp_1u {dst : Option Tmp} {ty : TypeId} {pos : String} {aft : Array Edge} {gd : Option (Nat × Bool)} {a : Act} {w : World} {K : Act → World → Prop} {Q : Exit → Act → World → Prop} {x : Operand} {q : Int} (hq : 0 ≤ q ∧ q ≤ 255) (hx : a.eval x = .int .u8 q) (h : ∀ w1 g, Sl w1 (some ⟨g, 0, none⟩) 1 1 [q] → w.heap.size ≤ g → w1.heap[g]? = some (.cells #[.int .u8 q] 5 (0, 0)) → Below w.heap.size w w1 → K (a.put dst (.slice (some ⟨g, 0, none⟩) 1 1)) w1) :
    Oper.wp Tryd.prog ⟨dst, .buildSlice 25 1 #[(0, x)], ty, pos, aft, gd⟩ a w K Q := by
  refine wp_runV (.slice (some ⟨w.heap.size, 0, none⟩) 1 1) (w.alloc (.cells #[.int .u8 q] 5)) ?_ (h _ _ (one_slQ w q hq) (Nat.le_refl _) (heap_alloc_new w _) ((Below.refl _ _).alloc (Nat.le_refl _) _))
  unfold execOp
  simp only [List.map_toArray, List.map_cons, List.map_nil, hx]
  simp only [Sem.run_bind, build_1q, Result.andThen_ok, Sem.run_pure]
/-- What is in each slot of honest's second region, once it is filled. -/
def honV (dx dn dy : List Int) (z : World) : Nat → Value → World → Prop
  | 0, v, _ => v = .agg (u8s dx).toArray
  | 1, v, _ => v = .agg (u8s dx).toArray
  | 2, v, _ => v = .agg (u8s dy).toArray
  | 3, v, _ => v = .agg (u8s dn).toArray
  | 4, v, _ => v = .agg (u8s dy).toArray
  | 5, v, w => ∃ g, v = .slice (some ⟨g, 0, none⟩) 1 1 ∧ Ds w (some ⟨g, 0, none⟩) 1 1 dy
  | 6, v, w => ∃ g, v = .slice (some ⟨g, 0, none⟩) 1 1 ∧ Sl w (some ⟨g, 0, none⟩) 1 1 [120] ∧ z.heap.size ≤ g ∧ ∃ fr, w.heap[g]? = some (.cells #[.int .u8 120] 5 fr)
  | 7, v, w => ∃ g, v = .slice (some ⟨g, 0, none⟩) 1 1 ∧ Sl w (some ⟨g, 0, none⟩) 1 1 [120]
  | 8, v, w => ∃ g, v = .slice (some ⟨g, 0, none⟩) 1 1 ∧ Sl w (some ⟨g, 0, none⟩) 1 1 [120] ∧ z.heap.size ≤ g ∧ ∃ fr, w.heap[g]? = some (.cells #[.int .u8 120] 5 fr)
  | 9, v, w => ∃ g, v = .slice (some ⟨g, 0, none⟩) 1 1 ∧ Sl w (some ⟨g, 0, none⟩) 1 1 [120]
  | 10, v, _ => v = .agg (u8s dy).toArray
  | 11, v, w => ∃ g, v = .slice (some ⟨g, 0, none⟩) 1 1 ∧ Ds w (some ⟨g, 0, none⟩) 1 1 dy
  | 12, v, w => ∃ g16 g18 g20 g22, v = .agg (hcl dx dn dy g16 g18 g20 g22 120).cells.toArray ∧ (hcl dx dn dy g16 g18 g20 g22 120).In w
  | 13, v, w => ∃ g, v = .pointer (some ⟨g, 0, none⟩) ∧ Blk w g 27 c0v.cells ∧ z.heap.size ≤ g
  | _, _, _ => True
theorem honV_mono (dx dn dy : List Int) (z : World) : ∀ j v w w', honV dx dn dy z j v w → Mk z.heap.size w w' → honV dx dn dy z j v w'
  | 0, _, _, _, h, _ | 1, _, _, _, h, _ | 2, _, _, _, h, _ | 3, _, _, _, h, _ | 4, _, _, _, h, _ | 10, _, _, _, h, _ => h
  | 5, _, _, _, ⟨g, e, h⟩, hb | 11, _, _, _, ⟨g, e, h⟩, hb => ⟨g, e, h.mk' hb⟩
  | 6, _, _, _, ⟨g, e, h, hz, fr, hg⟩, hb | 8, _, _, _, ⟨g, e, h, hz, fr, hg⟩, hb => ⟨g, e, h.mk' hb, hz, hb.ub _ _ _ hg⟩
  | 7, _, _, _, ⟨g, e, h⟩, hb | 9, _, _, _, ⟨g, e, h⟩, hb => ⟨g, e, h.mk' hb⟩
  | 12, _, _, _, ⟨a, b, c, d, e, h⟩, hb => ⟨a, b, c, d, e, h.mk' hb⟩
  | 13, _, _, _, ⟨g, e, h, hz⟩, hb => ⟨g, e, hb.blk _ _ _ (by decide) h, hz⟩
  | _ + 14, _, _, _, _, _ => trivial
def honS (i : Nat) : Nat := [11, 12, 13, 14, 15, 16, 17, 18, 19, 20, 21, 22, 23, 3].getD i 0
def honL : List Nat := [11, 12, 13, 14, 15, 16, 17, 18, 19, 20, 21, 22, 23, 3]
theorem Frm.at {a0 a : Act} {slots : List Nat} (h : Frm a0 a slots) (k : Nat) (hk : (slots.contains k) = false) : a.eval (.tmp k) = a0.tmps.getD k undef := h.keep k (by simpa using hk)
section
variable {dst : Option Tmp} {ty : TypeId} {pos : String} {aft : Array Edge} {gd : Option (Nat × Bool)} {a : Act} {w : World} {K : Act → World → Prop} {Q : Exit → Act → World → Prop}
set_option maxRecDepth 100000 in
theorem wp_conv25 {x : Operand} {g l c B : Nat} {C : Array Value} {fr : Nat × Nat} (hx : a.eval x = .slice (some ⟨g, 0, none⟩) l c) (hg : w.heap[g]? = some (.cells C 5 fr)) (hB : B ≤ g) (h : ∀ w', Mk B w w' → K (a.put dst (.slice (some ⟨g, 0, none⟩) l c)) w') : Oper.wp Tryd.prog ⟨dst, .convert 25 25 x, ty, pos, aft, gd⟩ a w K Q := by
  obtain ⟨w', hr, hm⟩ := conv_mark w g l c B C fr hg hB
  refine wp_runV (.slice (some ⟨g, 0, none⟩) l c) w' ?_ (h w' hm)
  unfold execOp
  simp only [hx, Sem.run_bind, hr, Result.andThen_ok, Sem.run_pure]
set_option maxRecDepth 100000 in
theorem wp_allocC (h : ∀ w1 g, Blk w1 g 27 c0v.cells → w.heap.size ≤ g → Below w.heap.size w w1 → K (a.put dst (.pointer (some ⟨g, 0, none⟩))) w1) : Oper.wp Tryd.prog ⟨dst, .alloc 27, ty, pos, aft, gd⟩ a w K Q :=
  wp_runV _ _ (zCl a.eval dst ty pos aft gd w) (h _ _ (Blk.made _ _ _) (Nat.le_refl _) ((Below.refl _ _).alloc (Nat.le_refl _) _))
set_option maxRecDepth 100000 in
theorem wp_hcl {t11 t14 t16 t18 t20 t22 : Nat} {dx dn dy : List Int} (hx : dx.length = 32) (hn : dn.length = 32) {g16 g18 g20 g22 : Nat} (h1 : a.eval (.tmp t11) = .agg (u8s dx).toArray) (h2 : a.eval (.tmp t14) = .agg (u8s dn).toArray) (h3 : a.eval (.tmp t16) = .slice (some ⟨g16, 0, none⟩) 1 1) (h4 : a.eval (.tmp t18) = .slice (some ⟨g18, 0, none⟩) 1 1) (h5 : a.eval (.tmp t20) = .slice (some ⟨g20, 0, none⟩) 1 1) (h6 : a.eval (.tmp t22) = .slice (some ⟨g22, 0, none⟩) 1 1)
    (h : K (a.put dst (.agg (hcl dx dn dy g16 g18 g20 g22 120).cells.toArray)) w) :
    Oper.wp Tryd.prog ⟨dst, .build 27 #[(0, .const (.int .i64 1)), (1, .const (.int .i64 2)), (2, .tmp t11), (3, .tmp t14), (4, .tmp t16), (6, .tmp t18), (7, .tmp t20), (9, .tmp t22)], ty, pos, aft, gd⟩ a w K Q := by
  refine wp_runV (.agg (hcl dx dn dy g16 g18 g20 g22 120).cells.toArray) w ?_ h
  have hc : ∀ v : Value, a.eval (.const v) = v := fun _ => rfl
  unfold execOp
  simp only [List.map_toArray, List.map_cons, List.map_nil, h1, h2, h3, h4, h5, h6, hc]
  simp only [Sem.run_bind, build_hcl dx dn dy hx hn, Result.andThen_ok, Sem.run_pure]
end

theorem sl_ne {w : World} {g k l c : Nat} {xs : List Int} {t : TypeId} {m : Int} {cs : List Value} (h : Sl w (some ⟨g, 0, none⟩) (l + 1) c xs) (hk : Blk w k t (.int .i64 m :: cs)) : 0 < l + 1 → Apart k (some ⟨g, 0, none⟩) := fun _ x hx => by
  cases hx
  show g ≠ k
  rintro rfl
  obtain ⟨b, o, e, hc⟩ := h.hcell (by omega)
  cases e
  have h0 := hc 0 (by omega)
  rw [Nat.zero_add, hk.cell] at h0
  simp at h0
theorem list35 (L : List Value) (h : L.length = 35) : ∃ x0 x1 x2 x3 x4 x5 x6 x7 x8 x9 x10 x11 x12 x13 x14 x15 x16 x17 x18 x19 x20 x21 x22 x23 x24 x25 x26 x27 x28 x29 x30 x31 x32 x33 x34, L = [x0, x1, x2, x3, x4, x5, x6, x7, x8, x9, x10, x11, x12, x13, x14, x15, x16, x17, x18, x19, x20, x21, x22, x23, x24, x25, x26, x27, x28, x29, x30, x31, x32, x33, x34] := by
  match L, h with
  | x0 :: x1 :: x2 :: x3 :: x4 :: x5 :: x6 :: x7 :: x8 :: x9 :: x10 :: x11 :: x12 :: x13 :: x14 :: x15 :: x16 :: x17 :: x18 :: x19 :: x20 :: x21 :: x22 :: x23 :: x24 :: x25 :: x26 :: x27 :: x28 :: x29 :: x30 :: x31 :: x32 :: x33 :: x34 :: [], _ => exact ⟨x0, x1, x2, x3, x4, x5, x6, x7, x8, x9, x10, x11, x12, x13, x14, x15, x16, x17, x18, x19, x20, x21, x22, x23, x24, x25, x26, x27, x28, x29, x30, x31, x32, x33, x34, rfl⟩
theorem one_slM (w : World) (x : Int) (hx : 0 ≤ x ∧ x ≤ 255) : Sl (w.alloc (.cells #[.int .u8 x] 5 (1, 2))) (some ⟨w.heap.size, 0, none⟩) 1 1 [x] := by
  refine ⟨rfl, Nat.le_refl _, by omega, by omega, by intro y hy; simp at hy; omega, (fun e => by cases e), fun _ => ⟨w.heap.size, 0, rfl, fun i hi => ?_⟩⟩
  obtain rfl : i = 0 := by omega
  have h : (w.alloc (.cells #[.int .u8 x] 5 (1, 2))).heap[w.heap.size]? = some (.cells #[.int .u8 x] 5 (1, 2)) := heap_alloc_new w _
  unfold World.cell?
  rw [h]
  rfl
set_option maxRecDepth 100000 in
set_option maxHeartbeats 1000000 in
theorem honest_any (w : World) (hk : KT w) : Calls Tryd.prog 13 #[] w fun r w' => r = .returned (.bool true) ∧ Below w.heap.size w w' := by
  have HK := hide hk
  clear hk
  obtain ⟨dx, HX⟩ : ∃ d, Hid (d = lf [120]) := ⟨_, hide rfl⟩
  obtain ⟨dy, HY⟩ : ∃ d, Hid (d = lf [121]) := ⟨_, hide rfl⟩
  obtain ⟨dn, HN⟩ : ∃ d, Hid (d = nd dx dy) := ⟨_, hide rfl⟩
  have LX : Hid (dx.length = 32) := hide (by rw [HX.out]; exact lf_length _)
  have LY : Hid (dy.length = 32) := hide (by rw [HY.out]; exact lf_length _)
  have LN : Hid (dn.length = 32) := hide (by rw [HN.out]; exact nd_length _ _)
  have BX : Hid (isB dx) := hide (by rw [HX.out]; exact lf_isB _)
  have BYY : Hid (isB dy) := hide (by rw [HY.out]; exact lf_isB _)
  have BN : Hid (isB dn) := hide (by rw [HN.out]; exact nd_isB _ _)
  have UX : Hid ((u8s dx).length = 32) := hide (by rw [u8s_length, LX.out])
  have UY : Hid ((u8s dy).length = 32) := hide (by rw [u8s_length, LY.out])
  have B0 : Hid (Below w.heap.size w (w.alloc (.cells #[.int .u8 120] 5 (1, 2)))) := hide ((Below.refl _ _).alloc (Nat.le_refl _) _)
  have hcv := Lib.run_convert_bytes_const (P := Tryd.prog) w 25 5 #[.int .u8 120] 1 1 undBs undB
  go_enter Tryd.func13, Tryd.ntmps13
  go_wp2_with (go_at_call 15; refine (leaf_any _ 1 1 [120] _ (one_slM w 120 (by omega)) (by omega) (HK.out.below B0.out HK.out.lt)).mono ?_)
  rintro r w1 ⟨rfl, hb1⟩
  rw [← HX.out]
  have B1 := hide (B0.out.trans (hb1.mono B0.out.size))
  have B1a : Hid (Below w.heap.size w (w1.alloc (.cells #[.int .u8 121] 5 (1, 2)))) := hide (B1.out.alloc B1.out.size _)
  have hcv1 := Lib.run_convert_bytes_const (P := Tryd.prog) w1 25 5 #[.int .u8 121] 1 1 undBs undB
  clear hb1
  go_wp2_with (go_at_call 15; refine (leaf_any _ 1 1 [121] _ (one_slM w1 121 (by omega)) (by omega) (HK.out.below B1a.out HK.out.lt)).mono ?_)
  rintro r w2 ⟨rfl, hb2⟩
  rw [← HY.out]
  have B2 := hide (B1a.out.trans (hb2.mono B1a.out.size))
  clear hb2 hcv hcv1
  go_wp2_with (refine step_alloc zD rfl ?_)
  intro w3 g1 hr3 hl3 hb3
  go_wp2_with (refine step_alloc zD rfl ?_)
  intro w4 g2 hr4 hl4 hb4
  have n12 : g1 ≠ g2 := by have := hr3.lt; omega
  have hg1 : w.heap.size ≤ g1 := Nat.le_trans B2.out.size hl3
  have B3 := hide (B2.out.trans (hb3.mono B2.out.size))
  have hg2 : w.heap.size ≤ g2 := Nat.le_trans B3.out.size hl4
  have B4 := hide (B3.out.trans (hb4.mono B3.out.size))
  go_wp2_with (refine step_storeA wD rfl rfl rfl (hr3.on hb4) UX.out (One.u8 _) (by rw [u8s_length, zer_length]) ?_)
  intro w5 hr5 hbt5
  have B5 := hide (B4.out.trans (hbt5.below hg1))
  go_wp2_with (refine step_storeA wD rfl rfl rfl (hr4.but hbt5 (Ne.symm n12)) UY.out (One.u8 _) (by rw [u8s_length, zer_length]) ?_)
  intro z hr6 hbt6
  have G1 := hide (hr5.but hbt6 n12)
  have G2 := hide hr6
  have BZ := hide (B5.out.trans (hbt6.below hg2))
  clear hr3 hl3 hb3 hr4 hl4 hb4 hr5 hbt5 hr6 hbt6 n12 hg1 hg2 B1 B1a B2 B3 B4 B5 B0
  go_wp2_with fail
  refine wp_region_noPanic ?_
  refine wp_region_inv (n := 14) (slot := honS) (slots := honL) (Val := honV dx dn dy z) (z := z) (R := Mk z.heap.size) (by kernel_rfl) (Mk.of ((Below.refl _ _).drew) (Nat.le_refl _)) (by kernel_rfl) (fun _ _ _ h k => h.trans k) (honV_mono dx dn dy z) (by kernel_rfl) (by kernel_rfl) (by kernel_rfl) (by kernel_rfl) ?_ ?_ rfl
  · intro i hi a v hF hB hV
    have q1 : a.eval (.tmp 1) = .pointer (some ⟨g1, 0, none⟩) := hF.at 1 (by kernel_rfl)
    have q2 : a.eval (.tmp 2) = .pointer (some ⟨g2, 0, none⟩) := hF.at 2 (by kernel_rfl)
    have E1 := hB.blk _ _ _ (by decide) G1.out
    have E2 := hB.blk _ _ _ (by decide) G2.out
    have hz : z.heap.size ≤ v.heap.size := hB.size
    match i, hi with
    | 0, _ => exact wpOp_of rfl rfl (wp_loadWG wD q1 E1 UX.out ⟨_, rfl, rfl, Mk.refl _ _⟩)
    | 1, _ => exact wpOp_of rfl rfl (wp_loadWG wD q1 E1 UX.out ⟨_, rfl, rfl, Mk.refl _ _⟩)
    | 2, _ => exact wpOp_of rfl rfl (wp_loadWG wD q2 E2 UY.out ⟨_, rfl, rfl, Mk.refl _ _⟩)
    | 3, _ =>
      have v1 : a.eval (.tmp 12) = .agg (u8s dx).toArray := hV 1 (by omega) (by kernel_rfl)
      have v2 : a.eval (.tmp 13) = .agg (u8s dy).toArray := hV 2 (by omega) (by kernel_rfl)
      have v1b : a.tmps.getD 12 undef = .agg (u8s dx).toArray := v1
      have v2b : a.tmps.getD 13 undef = .agg (u8s dy).toArray := v2
      have v1c : a.tmps[12]?.getD undef = .agg (u8s dx).toArray := by rw [← Array.getD_eq_getD_getElem?]; exact v1
      have v2c : a.tmps[13]?.getD undef = .agg (u8s dy).toArray := by rw [← Array.getD_eq_getD_getElem?]; exact v2
      refine wpOp_of rfl rfl ?_
      go_simp
      refine (node_any dx dy _ LX.out BX.out LY.out BYY.out (HK.out.below (BZ.out.trans (hB.low.mono BZ.out.size)) HK.out.lt)).mono ?_
      rintro r v3 ⟨rfl, hb3⟩
      rw [← HN.out]
      exact ⟨_, rfl, rfl, Mk.of hb3 hz⟩
    | 4, _ => exact wpOp_of rfl rfl (wp_loadWG wD q2 E2 UY.out ⟨_, rfl, rfl, Mk.refl _ _⟩)
    | 5, _ =>
      have v1 : a.eval (.tmp 15) = .agg (u8s dy).toArray := hV 4 (by omega) (by kernel_rfl)
      exact wpOp_of rfl rfl (wp_oneD v1 LY.out BYY.out fun w1 g hs hb => ⟨_, rfl, ⟨g, rfl, hs⟩, Mk.of hb hz⟩)
    | 6, _ => exact wpOp_of rfl rfl (wp_1u (q := 120) (by omega) rfl fun w1 g hs hl hg hb => ⟨_, rfl, ⟨g, rfl, hs, Nat.le_trans hz hl, _, hg⟩, Mk.of hb hz⟩)
    | 7, _ =>
      obtain ⟨g, e, hs, hzg, fr, hg⟩ := hV 6 (by omega) (by kernel_rfl)
      exact wpOp_of rfl rfl (wp_conv25 e hg hzg fun w' hm => ⟨_, rfl, ⟨g, rfl, hs.mk' hm⟩, hm⟩)
    | 8, _ => exact wpOp_of rfl rfl (wp_1u (q := 120) (by omega) rfl fun w1 g hs hl hg hb => ⟨_, rfl, ⟨g, rfl, hs, Nat.le_trans hz hl, _, hg⟩, Mk.of hb hz⟩)
    | 9, _ =>
      obtain ⟨g, e, hs, hzg, fr, hg⟩ := hV 8 (by omega) (by kernel_rfl)
      exact wpOp_of rfl rfl (wp_conv25 e hg hzg fun w' hm => ⟨_, rfl, ⟨g, rfl, hs.mk' hm⟩, hm⟩)
    | 10, _ => exact wpOp_of rfl rfl (wp_loadWG wD q2 E2 UY.out ⟨_, rfl, rfl, Mk.refl _ _⟩)
    | 11, _ =>
      have v1 : a.eval (.tmp 21) = .agg (u8s dy).toArray := hV 10 (by omega) (by kernel_rfl)
      exact wpOp_of rfl rfl (wp_oneD v1 LY.out BYY.out fun w1 g hs hb => ⟨_, rfl, ⟨g, rfl, hs⟩, Mk.of hb hz⟩)
    | 12, _ =>
      have v0 : a.eval (.tmp 11) = .agg (u8s dx).toArray := hV 0 (by omega) (by kernel_rfl)
      have v3 : a.eval (.tmp 14) = .agg (u8s dn).toArray := hV 3 (by omega) (by kernel_rfl)
      obtain ⟨g16, e16, h16⟩ := hV 5 (by omega) (by kernel_rfl)
      obtain ⟨g18, e18, h18⟩ := hV 7 (by omega) (by kernel_rfl)
      obtain ⟨g20, e20, h20⟩ := hV 9 (by omega) (by kernel_rfl)
      obtain ⟨g22, e22, h22⟩ := hV 11 (by omega) (by kernel_rfl)
      exact wpOp_of rfl rfl (wp_hcl (dy := dy) LX.out LN.out v0 v3 e16 e18 e20 e22 ⟨_, rfl, ⟨g16, g18, g20, g22, rfl, hcl_in LX.out BX.out LN.out BN.out h16 h18 h20 h22⟩, Mk.refl _ _⟩)
    | 13, _ => exact wpOp_of rfl rfl (wp_allocC fun w1 g hg hl hb => ⟨_, rfl, ⟨g, rfl, hg, Nat.le_trans hz hl⟩, Mk.of hb hz⟩)
  · intro a v hF hB hV
    obtain ⟨g16, g18, g20, g22, e23, hin⟩ := hV 12 (by omega)
    obtain ⟨g3, e3, hg3, hl3⟩ := hV 13 (by omega)
    have LC := hide (Cv.length hin.lo hin.ln)
    refine wpOp_of rfl rfl (wp_storeG9 wCl e3 e23 hg3 LC.out (Cv.one _) (by kernel_rfl) ?_)
    intro y hy hbt
    refine NoPanic.normal ?_
    have hiy : (hcl dx dn dy g16 g18 g20 g22 120).In y := ⟨hin.lo, hin.bo, hin.ln, hin.bn, hin.ds.butQ hbt (fun h0 => sl_ne (l := 31) hin.ds.sl hg3 (by omega)), hin.sx.but hbt (sl_ne (l := 0) hin.sx hg3), hin.hx, hin.sy.but hbt (sl_ne (l := 0) hin.sy hg3), hin.hy, hin.dO.butQ hbt (fun h0 => absurd h0 (Nat.lt_irrefl 0)), hin.dN.butQ hbt (fun h0 => sl_ne (l := 31) hin.dN.sl hg3 (by omega))⟩
    have BY := hide ((BZ.out.trans (hB.low.mono BZ.out.size)).trans (hbt.below (Nat.le_trans BZ.out.size hl3)))
    have GY := hide hy
    have IY := hide hiy
    obtain ⟨⟨M⟩, df⟩ := a
    have hM : M.length = 35 := hF.size
    have hdf : df = [] := hF.defers
    subst hdf
    obtain ⟨x0, x1, x2, x3, x4, x5, x6, x7, x8, x9, x10, x11, x12, x13, x14, x15, x16, x17, x18, x19, x20, x21, x22, x23, x24, x25, x26, x27, x28, x29, x30, x31, x32, x33, x34, rfl⟩ := list35 M hM
    have ex3 : x3 = .pointer (some ⟨g3, 0, none⟩) := e3
    subst ex3
    clear hM hF hB hV e23 e3 hin hg3 hbt hy hiy
    have HA1 : Hid ((hcl dx dn dy g16 g18 g20 g22 120).acc = true) := hide (by rw [hcl_acc dx dn dy HX.out LY.out HN.out, ← HX.out, ← HN.out]; simp)
    have HA2 : Hid (∀ g, (hcl dx dn dy g16 g18 g g22 122).acc = false) := hide (fun g => by rw [hcl_acc dx dn dy HX.out LY.out HN.out]; refine decide_eq_false ?_; rw [HN.out, HX.out, HY.out]; exact nd_apart)
    go_wp2_with (first | (refine step_load wCl rfl rfl GY.out _ LC.out (by rw [List.drop_zero, List.take_of_length_le (by rw [LC.out]; omega)]) ?_) | (refine step_alloc zCl rfl ?_))
    intro v1 g4 hr4 hl4 hb4
    have LZ : Hid (c0v.cells.length = 72) := hide (by kernel_rfl)
    have B1 := hide (BY.out.trans (hb4.mono BY.out.size))
    have G31 := hide (GY.out.on hb4)
    have I1 := hide (IY.out.below hb4)
    have h4 : w.heap.size ≤ g4 := Nat.le_trans BY.out.size hl4
    have n34 : g3 ≠ g4 := by have := GY.out.lt; omega
    go_wp2_with (refine step_storeA wCl rfl rfl rfl hr4 LC.out (Cv.one _) LZ.out ?_)
    intro v2 hr5 hbt5
    have hi2 : (hcl dx dn dy g16 g18 g20 g22 120).In v2 := ⟨I1.out.lo, I1.out.bo, I1.out.ln, I1.out.bn, I1.out.ds.butQ hbt5 (fun h0 => sl_ne (l := 31) I1.out.ds.sl hr4 (by omega)), I1.out.sx.but hbt5 (sl_ne (l := 0) I1.out.sx hr4), I1.out.hx, I1.out.sy.but hbt5 (sl_ne (l := 0) I1.out.sy hr4), I1.out.hy, I1.out.dO.butQ hbt5 (fun h0 => absurd h0 (Nat.lt_irrefl 0)), I1.out.dN.butQ hbt5 (fun h0 => sl_ne (l := 31) I1.out.dN.sl hr4 (by omega))⟩
    have I2 := hide hi2
    have G32 := hide (G31.out.but hbt5 n34)
    have G42 := hide hr5
    have B2 := hide (B1.out.trans (hbt5.below h4))
    clear hr4 hb4 hr5 hbt5 hi2 hl4
    have hcv := Lib.run_convert_bytes_const (P := Tryd.prog) v2 25 5 #[.int .u8 122] 1 1 undBs undB
    have hb3 : Below v2.heap.size v2 (v2.alloc (.cells #[.int .u8 122] 5 (1, 2))) := (Below.refl _ _).alloc (Nat.le_refl _) _
    have hs22 := one_slM v2 122 (by omega)
    have hbl3 : Blk (v2.alloc (.cells #[.int .u8 122] 5 (1, 2))) g4 27 (hcl dx dn dy g16 g18 g20 g22 120).cells := G42.out.on hb3
    have hc69 := (Cv.at hbl3 I2.out.lo I2.out.ln).y
    have hf69 := hbl3.free 69
    have hz3 := hbl3.set 69 (.slice (some ⟨v2.heap.size, 0, none⟩) 1 1)
    have hbt3 := But.setCell (v2.alloc (.cells #[.int .u8 122] 5 (1, 2))) g4 69 (.slice (some ⟨v2.heap.size, 0, none⟩) 1 1)
    go_upto_region 5 with fail
    have I3 := I2.out.below hb3
    have hd1 := I3.ds.butQ hbt3 (fun h0 => sl_ne (l := 31) I3.ds.sl hbl3 (by omega))
    have hd2 := I3.sx.but hbt3 (sl_ne (l := 0) I3.sx hbl3)
    have hd3 := I3.sy.but hbt3 (sl_ne (l := 0) I3.sy hbl3)
    have hd4 := I3.dN.butQ hbt3 (fun h0 => sl_ne (l := 31) I3.dN.sl hbl3 (by omega))
    have hd5 := hs22.but hbt3 (sl_ne (l := 0) hs22 hbl3)
    have C1 : Hid ((hcl dx dn dy g16 g18 g20 g22 120).In _) := hide (hcl_in (y := 120) LX.out BX.out LN.out BN.out hd1 hd2 hd3 hd4)
    have C2 : Hid ((hcl dx dn dy g16 g18 v2.heap.size g22 122).In _) := hide (hcl_in (y := 122) LX.out BX.out LN.out BN.out hd1 hd2 hd5 hd4)
    have G33 := hide ((G32.out.on hb3).but hbt3 n34)
    have e69 : (hcl dx dn dy g16 g18 g20 g22 120).cells.set 69 (.slice (some ⟨v2.heap.size, 0, none⟩) 1 1) = (hcl dx dn dy g16 g18 v2.heap.size g22 122).cells := Cv.set69 (hcl dx dn dy g16 g18 g20 g22 120) LX.out LN.out _ 1
    rw [e69] at hz3
    have G43 := hide hz3
    have LC2 : Hid ((hcl dx dn dy g16 g18 v2.heap.size g22 122).cells.length = 72) := hide (Cv.length (c := hcl dx dn dy g16 g18 v2.heap.size g22 122) LX.out LN.out)
    have B3 := hide ((B2.out.trans (hb3.mono B2.out.size)).trans (hbt3.below h4))
    clear hcv hb3 hs22 hbl3 hc69 hf69 hbt3 I3 hd1 hd2 hd3 hd4 hd5 e69 hz3
    generalize (v2.alloc (.cells #[.int .u8 122] 5 (1, 2))).setCell ⟨g4, 69, none⟩ (.slice (some ⟨v2.heap.size, 0, none⟩) 1 1) = V at *
    have K3 := hide (HK.out.below B3.out HK.out.lt)
    go_wp2_with (first | (refine step_load wCl rfl rfl G33.out _ LC.out (by rw [List.drop_zero, List.take_of_length_le (by rw [LC.out]; omega)]) ?_) | (go_at_call 8; refine (accepted_any _ _ C1.out K3.out).mono ?_))
    rintro r v5 ⟨rfl, hb5⟩
    rw [HA1.out]
    have G45 := hide (G43.out.on hb5)
    have C25 := hide (C2.out.below hb5)
    have B5 := hide (B3.out.trans (hb5.mono B3.out.size))
    have K5 := hide (HK.out.below B5.out HK.out.lt)
    clear hb5
    go_wp2_with (first | (refine step_load wCl rfl rfl G45.out _ LC2.out (by rw [List.drop_zero, List.take_of_length_le (by rw [LC2.out]; omega)]) ?_) | (go_at_call 8; refine (accepted_any _ _ C25.out K5.out).mono ?_))
    rintro r v6 ⟨rfl, hb6⟩
    rw [HA2.out]
    go_wp2
    go_ret
    exact ⟨rfl, B5.out.trans (hb6.mono B5.out.size)⟩

end Go.Proofs.YtconeobaohmbnaaDoor

/-
  Parted: a fork is read as a claim of one tree twice.
-/
namespace Go.Proofs.YtconeobaohmbnaaDoor
open Go.RowKit
set_option linter.unusedVariables false

/-- A claim of one tree twice. -/
structure Fk (c : Cv) : Prop where
  em : c.m = c.n
  en : c.nw = c.o
  ea : c.aq = none
  el : c.ls = 0
  ec : c.cs = 0
  es : c.S = []
/-- The cells of the fork that it is. -/
def Cv.fcells (c : Cv) : List Value := [.int .i64 c.i, .int .i64 c.n] ++ (u8s c.o ++ [.slice c.ax c.lx c.cx, .slice c.ay c.ly c.cy, .slice c.ao c.lo c.co, .slice c.an c.ln c.cn])
theorem Cv.flength {c : Cv} (h1 : c.o.length = 32) : c.fcells.length = 38 := by simp [Cv.fcells, u8s_length, h1]
theorem Cv.fR {c : Cv} (h1 : c.o.length = 32) : (c.fcells.drop 2).take 32 = u8s c.o := by
  unfold Cv.fcells
  rw [List.drop_left' (by rfl), List.take_left' (by rw [u8s_length, h1])]
theorem Cv.ftail {c : Cv} (h1 : c.o.length = 32) (k : Nat) : c.fcells[34 + k]? = [Value.slice c.ax c.lx c.cx, .slice c.ay c.ly c.cy, .slice c.ao c.lo c.co, .slice c.an c.ln c.cn][k]? := by
  unfold Cv.fcells
  rw [← List.append_assoc, List.getElem?_append_right (by simp [u8s_length, h1])]
  congr 1
  simp [u8s_length, h1]
/-- The cells that are read one by one. -/
structure Cv.Ft (c : Cv) (w : World) (g : Nat) : Prop where
  i : w.cell? ⟨g, 0, none⟩ = some (.int .i64 c.i)
  n : w.cell? ⟨g, 1, none⟩ = some (.int .i64 c.n)
  x : w.cell? ⟨g, 34, none⟩ = some (.slice c.ax c.lx c.cx)
  y : w.cell? ⟨g, 35, none⟩ = some (.slice c.ay c.ly c.cy)
  o : w.cell? ⟨g, 36, none⟩ = some (.slice c.ao c.lo c.co)
  nn : w.cell? ⟨g, 37, none⟩ = some (.slice c.an c.ln c.cn)
theorem Cv.ft {c : Cv} {w : World} {g : Nat} {t : TypeId} (h : Blk w g t c.fcells) (h1 : c.o.length = 32) : c.Ft w g :=
  ⟨by rw [h.cell]; rfl, by rw [h.cell]; rfl, by rw [h.cell]; exact Cv.ftail h1 0, by rw [h.cell]; exact Cv.ftail h1 1, by rw [h.cell]; exact Cv.ftail h1 2, by rw [h.cell]; exact Cv.ftail h1 3⟩
theorem wFk : Wide 35 38 := ⟨by kernel_rfl, by kernel_rfl⟩
theorem Fk.acc {c : Cv} (h : Fk c) : c.acc = (c.b2 && c.b3) := by
  unfold Cv.acc
  cases hb : c.b2 with
  | false => simp
  | true =>
    obtain ⟨i, m, b1, b2, b3, b4, b5, b6⟩ := incB_true hb
    obtain ⟨e1, e2⟩ := hvM_end (m := m) (b := 0) (n := m) (by omega)
    rw [if_pos rfl] at e2
    have e : c.e1 = 0 := by
      unfold Cv.e1 conE
      rw [← h.em, b2, h.el, h.es, h.en, if_neg (by omega), Int.toNat_natCast, if_pos (by rw [e1, e2]; rfl), if_pos]
      rw [e1, e2]
      exact ⟨rfl, rfl⟩
    rw [e]
    rfl
/-- What its two checks hash. -/
def Cv.fstrs (c : Cv) (n i : Nat) : List (List Int) := ((0 :: c.X) :: si (hvL i 0 n) c.O (lf c.X) c.lo) ++ ((0 :: c.Y) :: si (hvL i 0 n) c.N (lf c.Y) c.ln)
theorem Ac9.fleaves {c : Cv} {m n i : Nat} (h : Ac9 c m n i) (hf : Fk c) (ho : c.o.length = 32) (hS : c.S.length = 32 * c.ls) (hO : OneEach (fun s => s ∈ c.fstrs n i)) : c.X = c.Y := by
  have hmn : m = n := by have := hf.em; rw [h.em, h.en] at this; omega
  subst hmn
  refine h.leaves ho hS ?_
  have e : c.strs m m i = c.fstrs m i := by
    unfold Cv.strs Cv.fstrs
    rw [(hvM_end (m := m) (b := 0) (n := m) (by omega)).1]
    rfl
  rw [e]
  exact hO

set_option maxRecDepth 100000 in
set_option maxHeartbeats 1000000 in
theorem collP_any (cap : Value) (Lst : List (List Int)) (w : World)
    (hG : ∀ (y : World) (g mb : Nat), Below w.heap.size w y → Bk y g mb [] → Calls Tryd.prog 35 #[fsum g, cap] y fun r y' => r = .returned (.tuple #[]) ∧ Bk y' g mb Lst ∧ Bel g mb y y') :
    Calls Tryd.prog 30 #[.func (.func 35) #[] #[cap]] w fun r w' => ∃ av bv fd, r = .returned (.tuple #[av, bv, .bool fd]) ∧ Told w' Lst av bv fd ∧ Below w.heap.size w w' := by
  have HG := hide hG
  clear hG
  have hmk := run_makeMp w
  have hbd := build_book w.heap.size
  go_enter Tryd.func30, Tryd.ntmps30
  go_wp2_with (refine step_box (cs := [.map (some w.heap.size), .slice none 0 0, .slice none 0 0, .bool false]) rfl rfl ?_)
  intro y g hr hl hb
  have hb0 : Below w.heap.size w (w.alloc (.map #[] 0)) := (Below.refl _ _).alloc (Nat.le_refl _) _
  have hmap : y.heap[w.heap.size]? = some (.map #[] 0) := by
    rw [hb.block w.heap.size (by simp)]
    exact heap_alloc_new w _
  have BY := hide (hb0.trans (hb.mono (by simp)))
  have hg : w.heap.size ≤ g := Nat.le_trans (by simp) hl
  have KY : Hid (Bk y g w.heap.size []) := hide ⟨[], _, _, _, #[], 0, hr, hmap, by simp, by simp, by simp, fun _ => ⟨rfl, rfl, by simp⟩, fun h => by cases h⟩
  clear hmk hbd hb0 hmap hr hl hb
  go_wp2_with fail
  refine (HG.out y g w.heap.size BY.out KY.out).mono ?_
  rintro r z ⟨rfl, hB1, hbel1⟩
  obtain ⟨F, av, bv, fd, es, clock, hd⟩ := hB1
  have HD := hide hd
  have BZ := hide (BY.out.trans (hbel1.below hg (Nat.le_refl _) BY.out.size))
  clear hd hbel1
  go_wp2_with fail
  refine wp_region_noPanic ?_
  have Z0 := hide ((Below.refl z.heap.size z).drew)
  refine wp_region_held_drew (S := fun v : World => v.cell? ⟨g, 1, none⟩ = some av ∧ v.cell? ⟨g, 2, none⟩ = some bv ∧ v.cell? ⟨g, 3, none⟩ = some (.bool fd)) (by kernel_rfl) ⟨by rw [(HD.out.blk.on Z0.out).cell]; rfl, by rw [(HD.out.blk.on Z0.out).cell]; rfl, by rw [(HD.out.blk.on Z0.out).cell]; rfl⟩ (fun hHeld => ?_)
  refine takeH 0 13 (.pointer (some ⟨g, 0, none⟩)) hHeld rfl rfl (by kernel_rfl) (by kernel_rfl) (by kernel_rfl) (fun _ _ _ h => h) (Or.inl ⟨by rfl, fun w _ => by go_simp⟩) ?_
  simp only [Act.put, List.setIfInBounds_toArray, List.set_cons_zero, List.set_cons_succ]
  refine takeH 1 14 (.pointer (some ⟨g, 0, none⟩)) hHeld rfl rfl (by kernel_rfl) (by kernel_rfl) (by kernel_rfl) (fun _ _ _ h => h) (Or.inl ⟨by rfl, fun w _ => by go_simp⟩) ?_
  simp only [Act.put, List.setIfInBounds_toArray, List.set_cons_zero, List.set_cons_succ]
  refine takeH 2 15 (.pointer (some ⟨g, 1, none⟩)) hHeld rfl rfl (by kernel_rfl) (by kernel_rfl) (by kernel_rfl) (fun _ _ _ h => h) (Or.inl ⟨by rfl, fun w _ => by go_simp⟩) ?_
  simp only [Act.put, List.setIfInBounds_toArray, List.set_cons_zero, List.set_cons_succ]
  refine takeH 3 16 (av) hHeld rfl rfl (by kernel_rfl) (by kernel_rfl) (by kernel_rfl) (fun _ _ _ h => h) (Or.inl ⟨by rfl, fun w hw => by have hw' : w.cell? ⟨g, 1, none⟩ = some (av) := (fun hw => hw.1) hw; go_simp⟩) ?_
  simp only [Act.put, List.setIfInBounds_toArray, List.set_cons_zero, List.set_cons_succ]
  refine takeH 4 17 (.pointer (some ⟨g, 0, none⟩)) hHeld rfl rfl (by kernel_rfl) (by kernel_rfl) (by kernel_rfl) (fun _ _ _ h => h) (Or.inl ⟨by rfl, fun w _ => by go_simp⟩) ?_
  simp only [Act.put, List.setIfInBounds_toArray, List.set_cons_zero, List.set_cons_succ]
  refine takeH 5 18 (.pointer (some ⟨g, 0, none⟩)) hHeld rfl rfl (by kernel_rfl) (by kernel_rfl) (by kernel_rfl) (fun _ _ _ h => h) (Or.inl ⟨by rfl, fun w _ => by go_simp⟩) ?_
  simp only [Act.put, List.setIfInBounds_toArray, List.set_cons_zero, List.set_cons_succ]
  refine takeH 6 19 (.pointer (some ⟨g, 2, none⟩)) hHeld rfl rfl (by kernel_rfl) (by kernel_rfl) (by kernel_rfl) (fun _ _ _ h => h) (Or.inl ⟨by rfl, fun w _ => by go_simp⟩) ?_
  simp only [Act.put, List.setIfInBounds_toArray, List.set_cons_zero, List.set_cons_succ]
  refine takeH 7 20 (bv) hHeld rfl rfl (by kernel_rfl) (by kernel_rfl) (by kernel_rfl) (fun _ _ _ h => h) (Or.inl ⟨by rfl, fun w hw => by have hw' : w.cell? ⟨g, 2, none⟩ = some (bv) := (fun hw => hw.2.1) hw; go_simp⟩) ?_
  simp only [Act.put, List.setIfInBounds_toArray, List.set_cons_zero, List.set_cons_succ]
  refine takeH 8 21 (.pointer (some ⟨g, 0, none⟩)) hHeld rfl rfl (by kernel_rfl) (by kernel_rfl) (by kernel_rfl) (fun _ _ _ h => h) (Or.inl ⟨by rfl, fun w _ => by go_simp⟩) ?_
  simp only [Act.put, List.setIfInBounds_toArray, List.set_cons_zero, List.set_cons_succ]
  refine takeH 9 22 (.pointer (some ⟨g, 0, none⟩)) hHeld rfl rfl (by kernel_rfl) (by kernel_rfl) (by kernel_rfl) (fun _ _ _ h => h) (Or.inl ⟨by rfl, fun w _ => by go_simp⟩) ?_
  simp only [Act.put, List.setIfInBounds_toArray, List.set_cons_zero, List.set_cons_succ]
  refine takeH 10 23 (.pointer (some ⟨g, 3, none⟩)) hHeld rfl rfl (by kernel_rfl) (by kernel_rfl) (by kernel_rfl) (fun _ _ _ h => h) (Or.inl ⟨by rfl, fun w _ => by go_simp⟩) ?_
  simp only [Act.put, List.setIfInBounds_toArray, List.set_cons_zero, List.set_cons_succ]
  refine takeH 11 24 (.bool fd) hHeld rfl rfl (by kernel_rfl) (by kernel_rfl) (by kernel_rfl) (fun _ _ _ h => h) (Or.inl ⟨by rfl, fun w hw => by have hw' : w.cell? ⟨g, 3, none⟩ = some (.bool fd) := (fun hw => hw.2.2) hw; go_simp⟩) ?_
  simp only [Act.put, List.setIfInBounds_toArray, List.set_cons_zero, List.set_cons_succ]
  refine takeH 12 2 av hHeld rfl rfl (by kernel_rfl) (by kernel_rfl) (by kernel_rfl) (fun _ _ _ h => h) (Or.inl ⟨by rfl, fun w _ => by go_simp⟩) ?_
  simp only [Act.put, List.setIfInBounds_toArray, List.set_cons_zero, List.set_cons_succ]
  refine takeH 13 3 bv hHeld rfl rfl (by kernel_rfl) (by kernel_rfl) (by kernel_rfl) (fun _ _ _ h => h) (Or.inl ⟨by rfl, fun w _ => by go_simp⟩) ?_
  simp only [Act.put, List.setIfInBounds_toArray, List.set_cons_zero, List.set_cons_succ]
  refine takeH 14 4 (.bool fd) hHeld rfl rfl (by kernel_rfl) (by kernel_rfl) (by kernel_rfl) (fun _ _ _ h => h) (Or.inl ⟨by rfl, fun w _ => by go_simp⟩) ?_
  simp only [Act.put, List.setIfInBounds_toArray, List.set_cons_zero, List.set_cons_succ]
  refine wpAnyH_done (by kernel_rfl) ?_ _
  refine NoPanic.normal ?_
  clear hHeld
  go_wp2
  refine bodyPost_ret (results_tmp3 rfl _ _ _) rfl ⟨av, bv, fd, rfl, (HD.out.on Z0.out).told, BZ.out.trans (Z0.out.mono BZ.out.size)⟩
set_option maxRecDepth 100000 in
set_option maxHeartbeats 1000000 in
theorem exp1_any (c : Cv) (m n i gc g mb : Nat) (w : World) (hA : Ac9 c m n i) (hf : Fk c) (hi : c.In w) (hc : Blk w gc 35 c.fcells) (hk : KT w) (hB : Bk w g mb []) :
    Calls Tryd.prog 35 #[fsum g, .pointer (some ⟨gc, 0, none⟩)] w fun r w' => r = .returned (.tuple #[]) ∧ Bk w' g mb (c.fstrs n i) ∧ Bel g mb w w' := by
  have hmn : m = n := by have := hf.em; rw [hA.em, hA.en] at this; omega
  subst hmn
  have HA := hide hA
  have HI := hide hi
  have HC := hide hc
  have HK := hide hk
  have HB := hide hB
  have HO := hide hi.lo
  clear hA hi hc hk hB hf
  obtain ⟨k1, k2, k3, k4, k5, k6⟩ := Cv.ft HC.out HO.out
  rw [HA.out.ei] at k1
  rw [HA.out.en] at k2
  simp only [fsum]
  go_enter Tryd.func35, Tryd.ntmps35
  go_wp2_with (go_at_call 33; refine (rinc_any g mb c.ax c.lx c.cx c.X i m c.ao c.lo c.co c.O _ _ HI.out.hx HA.out.him HA.out.hn HA.out.lo HI.out.sx HI.out.dO HB.out HK.out).mono ?_)
  rintro r w2 ⟨⟨v2, rfl⟩, hB2, hbel2⟩
  have C2 := hide (HB.out.blk hbel2 HC.out (by decide))
  have Y2 := hide (HB.out.sl hbel2 HI.out.sy)
  have N2 := hide (HB.out.ds hbel2 HI.out.dN)
  have KT2 := hide (HB.out.kt hbel2 HK.out)
  have BL2 := hide hbel2
  have K2 := hide hB2
  clear hB2 hbel2 k1 k2 k3 k4 k5 k6
  obtain ⟨k1, k2, k3, k4, k5, k6⟩ := Cv.ft C2.out HO.out
  rw [HA.out.ei] at k1
  rw [HA.out.en] at k2
  go_wp2_with (go_at_call 33; refine (rinc_any g mb c.ay c.ly c.cy c.Y i m c.an c.ln c.cn c.N _ _ HI.out.hy HA.out.him HA.out.hn HA.out.ln Y2.out N2.out K2.out KT2.out).mono ?_)
  rintro r w3 ⟨⟨v3, rfl⟩, hB3, hbel3⟩
  have K3 := hide hB3
  have BL3 := hide (BL2.out.trans hbel3)
  clear hB3 hbel3 k1 k2 k3 k4 k5 k6
  go_wp2
  go_end0
  exact ⟨rfl, K3.out, BL3.out⟩

set_option maxRecDepth 100000 in
set_option maxHeartbeats 1000000 in
theorem parted_any (c : Cv) (w : World) (hf : Fk c) (hi : c.In w) (hk : KT w) :
    Calls Tryd.prog 14 #[.agg c.fcells.toArray] w fun r w' => ∃ av bv, r = .returned (.tuple #[av, bv, .bool (c.acc && decide (c.X ≠ c.Y))]) ∧ Ext w' av bv (c.acc && decide (c.X ≠ c.Y)) ∧ Below w.heap.size w w' := by
  have HI := hide hi
  have HK := hide hk
  have HO := hide hi.lo
  have HF := hide hf
  have HM : Hid (incB c.X c.i c.n c.lo c.O c.o = c.b2) := hide (by rw [← hf.em]; rfl)
  have HM3 : Hid (incB c.Y c.i c.n c.ln c.N c.o = c.b3) := hide (by rw [← hf.en]; rfl)
  clear hi hk hf
  by_cases hxy : c.X = c.Y
  · have hdc : decide (c.X = c.Y) = true := decide_eq_true hxy
    have HR : Hid ((c.acc && decide (c.X ≠ c.Y)) = false) := hide (by simp [hxy])
    rw [HR.out]
    go_enter Tryd.func14, Tryd.ntmps14
    go_wp2_with (refine step_box (cs := c.fcells) rfl rfl ?_)
    intro y g1 hr1 hl1 hb1
    have G1 := hide hr1
    have BY := hide hb1
    have HIY := hide (HI.out.below hb1)
    have KY := hide (HK.out.below hb1 HK.out.lt)
    clear hr1 hb1
    obtain ⟨k1, k2, k3, k4, k5, k6⟩ := Cv.ft G1.out HO.out
    go_wp2_with (go_at_call 29; refine (bytesEq_any _ _ _ c.X _ _ _ c.Y _ HIY.out.sx HIY.out.sy).mono ?_; rintro r w' ⟨rfl, rfl⟩; rw [hdc])
    refine bodyPost_ret (results_tmp3 rfl _ _ _) rfl ⟨_, _, rfl, Ext.none _, BY.out⟩
  · have hdc : decide (c.X = c.Y) = false := decide_eq_false hxy
    cases hb2 : c.b2 with
    | false =>
      have HR : Hid ((c.acc && decide (c.X ≠ c.Y)) = false) := hide (by rw [HF.out.acc, hb2]; rfl)
      rw [HR.out]
      go_enter Tryd.func14, Tryd.ntmps14
      go_wp2_with (refine step_box (cs := c.fcells) rfl rfl ?_)
      intro y g1 hr1 hl1 hb1
      have G1 := hide hr1
      have BY := hide hb1
      have HIY := hide (HI.out.below hb1)
      have KY := hide (HK.out.below hb1 HK.out.lt)
      clear hr1 hb1
      obtain ⟨k1, k2, k3, k4, k5, k6⟩ := Cv.ft G1.out HO.out
      go_wp2_with (first | (go_at_call 29; refine (bytesEq_any _ _ _ c.X _ _ _ c.Y _ HIY.out.sx HIY.out.sy).mono ?_; rintro r w' ⟨rfl, rfl⟩; rw [hdc]) | (refine step_load wD rfl rfl G1.out (u8s c.o) (by rw [u8s_length, HO.out]) (Cv.fR HO.out) ?_) | (go_at_call 25; refine (included_any c.ax c.lx c.cx c.X c.i c.n c.ao c.lo c.co c.O c.o _ HIY.out.sx HIY.out.hx HIY.out.dO HO.out KY.out).mono ?_))
      rintro r v1 ⟨rfl, hv1⟩
      rw [HM.out, hb2]
      have Y1 := hide hv1
      have G1' := hide (G1.out.on hv1)
      have HI1 := hide (HIY.out.below hv1)
      have K1 := hide (KY.out.below hv1 KY.out.lt)
      clear hv1 k1 k2 k3 k4 k5 k6
      obtain ⟨k1, k2, k3, k4, k5, k6⟩ := Cv.ft G1'.out HO.out
      go_wp2
      refine bodyPost_ret (results_tmp3 rfl _ _ _) rfl ⟨_, _, rfl, Ext.none _, BY.out.trans (Y1.out.mono BY.out.size)⟩
    | true =>
      cases hb3 : c.b3 with
      | false =>
        have HR : Hid ((c.acc && decide (c.X ≠ c.Y)) = false) := hide (by rw [HF.out.acc, hb2, hb3]; rfl)
        rw [HR.out]
        go_enter Tryd.func14, Tryd.ntmps14
        go_wp2_with (refine step_box (cs := c.fcells) rfl rfl ?_)
        intro y g1 hr1 hl1 hb1
        have G1 := hide hr1
        have BY := hide hb1
        have HIY := hide (HI.out.below hb1)
        have KY := hide (HK.out.below hb1 HK.out.lt)
        clear hr1 hb1
        obtain ⟨k1, k2, k3, k4, k5, k6⟩ := Cv.ft G1.out HO.out
        go_wp2_with (first | (go_at_call 29; refine (bytesEq_any _ _ _ c.X _ _ _ c.Y _ HIY.out.sx HIY.out.sy).mono ?_; rintro r w' ⟨rfl, rfl⟩; rw [hdc]) | (refine step_load wD rfl rfl G1.out (u8s c.o) (by rw [u8s_length, HO.out]) (Cv.fR HO.out) ?_) | (go_at_call 25; refine (included_any c.ax c.lx c.cx c.X c.i c.n c.ao c.lo c.co c.O c.o _ HIY.out.sx HIY.out.hx HIY.out.dO HO.out KY.out).mono ?_))
        rintro r v1 ⟨rfl, hv1⟩
        rw [HM.out, hb2]
        have Y1 := hide hv1
        have G1' := hide (G1.out.on hv1)
        have HI1 := hide (HIY.out.below hv1)
        have K1 := hide (KY.out.below hv1 KY.out.lt)
        clear hv1 k1 k2 k3 k4 k5 k6
        obtain ⟨k1, k2, k3, k4, k5, k6⟩ := Cv.ft G1'.out HO.out
        go_wp2_with (first | (refine step_load wD rfl rfl G1'.out (u8s c.o) (by rw [u8s_length, HO.out]) (Cv.fR HO.out) ?_) | (go_at_call 25; refine (included_any c.ay c.ly c.cy c.Y c.i c.n c.an c.ln c.cn c.N c.o _ HI1.out.sy HI1.out.hy HI1.out.dN HO.out K1.out).mono ?_))
        rintro r z ⟨rfl, hv2⟩
        rw [HM3.out, hb3]
        have BZ := hide ((BY.out.trans (Y1.out.mono BY.out.size)).trans (hv2.mono (Nat.le_trans BY.out.size Y1.out.size)))
        have GZ := hide (G1'.out.on hv2)
        have HIZ := hide (HI1.out.below hv2)
        have KZ := hide (K1.out.below hv2 K1.out.lt)
        clear hv2 k1 k2 k3 k4 k5 k6
        go_wp2
        refine bodyPost_ret (results_tmp3 rfl _ _ _) rfl ⟨_, _, rfl, Ext.none _, BZ.out⟩
      | true =>
        have hac : c.acc = true := by rw [HF.out.acc, hb2, hb3]; rfl
        have HR : Hid ((c.acc && decide (c.X ≠ c.Y)) = true) := hide (by rw [hac]; simp [hxy])
        rw [HR.out]
        obtain ⟨m, n, i, hA⟩ := Cv.accs hac
        have HA := hide hA
        clear hA hac
        go_enter Tryd.func14, Tryd.ntmps14
        go_wp2_with (refine step_box (cs := c.fcells) rfl rfl ?_)
        intro y g1 hr1 hl1 hb1
        have G1 := hide hr1
        have BY := hide hb1
        have HIY := hide (HI.out.below hb1)
        have KY := hide (HK.out.below hb1 HK.out.lt)
        clear hr1 hb1
        obtain ⟨k1, k2, k3, k4, k5, k6⟩ := Cv.ft G1.out HO.out
        go_wp2_with (first | (go_at_call 29; refine (bytesEq_any _ _ _ c.X _ _ _ c.Y _ HIY.out.sx HIY.out.sy).mono ?_; rintro r w' ⟨rfl, rfl⟩; rw [hdc]) | (refine step_load wD rfl rfl G1.out (u8s c.o) (by rw [u8s_length, HO.out]) (Cv.fR HO.out) ?_) | (go_at_call 25; refine (included_any c.ax c.lx c.cx c.X c.i c.n c.ao c.lo c.co c.O c.o _ HIY.out.sx HIY.out.hx HIY.out.dO HO.out KY.out).mono ?_))
        rintro r v1 ⟨rfl, hv1⟩
        rw [HM.out, hb2]
        have Y1 := hide hv1
        have G1' := hide (G1.out.on hv1)
        have HI1 := hide (HIY.out.below hv1)
        have K1 := hide (KY.out.below hv1 KY.out.lt)
        clear hv1 k1 k2 k3 k4 k5 k6
        obtain ⟨k1, k2, k3, k4, k5, k6⟩ := Cv.ft G1'.out HO.out
        go_wp2_with (first | (refine step_load wD rfl rfl G1'.out (u8s c.o) (by rw [u8s_length, HO.out]) (Cv.fR HO.out) ?_) | (go_at_call 25; refine (included_any c.ay c.ly c.cy c.Y c.i c.n c.an c.ln c.cn c.N c.o _ HI1.out.sy HI1.out.hy HI1.out.dN HO.out K1.out).mono ?_))
        rintro r z ⟨rfl, hv2⟩
        rw [HM3.out, hb3]
        have BZ := hide ((BY.out.trans (Y1.out.mono BY.out.size)).trans (hv2.mono (Nat.le_trans BY.out.size Y1.out.size)))
        have GZ := hide (G1'.out.on hv2)
        have HIZ := hide (HI1.out.below hv2)
        have KZ := hide (K1.out.below hv2 K1.out.lt)
        clear hv2 k1 k2 k3 k4 k5 k6
        go_wp2_with (go_at_call 30; refine (collP_any (.pointer (some ⟨g1, 0, none⟩)) (c.fstrs n i) _ (fun y g mb hby hBk => exp1_any c m n i g1 g mb y HA.out HF.out (HIZ.out.below hby) (GZ.out.on hby) (KZ.out.below hby KZ.out.lt) hBk)).mono ?_)
        rintro r v ⟨av, bv, fd, rfl, hT, hbv⟩
        have hfd : fd = true := by
          cases fd with
          | true => rfl
          | false => exact absurd (HA.out.fleaves HF.out HO.out HIZ.out.ds.hlen (hT.no rfl).2.2) hxy
        subst hfd
        have HT := hide hT
        clear hT
        go_wp2
        refine bodyPost_ret (results_tmp3 rfl _ _ _) rfl ⟨_, _, rfl, ⟨(fun h => by cases h), HT.out.yes⟩, BZ.out.trans (hbv.mono BZ.out.size)⟩

end Go.Proofs.YtconeobaohmbnaaDoor

/-
  Forks built; a fork of the call's own.
-/
namespace Go.Proofs.YtconeobaohmbnaaDoor
open Go.RowKit
set_option linter.unusedVariables false

theorem zFk : Zeroed 35 c0v.fcells := fun _ _ _ _ _ _ _ => by kernel_rfl
theorem rFk : Rec 35 c0v.fcells [(0, 1), (1, 1), (2, 32), (34, 1), (35, 1), (36, 1), (37, 1)] := fun parts => by kernel_rfl
theorem Cv.foneC (c : Cv) : One c.fcells := by
  intro v hv
  unfold Cv.fcells at hv
  rcases List.mem_append.1 hv with hv | hv
  · simp at hv; rcases hv with rfl | rfl <;> rfl
  · rcases List.mem_append.1 hv with hv | hv
    · exact One.u8 _ v hv
    · simp at hv; rcases hv with rfl | rfl | rfl | rfl <;> rfl
theorem Cv.flen_le {c : Cv} (h1 : c.o.length = 32) {k : Nat} (hk : k ≤ 38) : k ≤ c.fcells.length := by rw [Cv.flength h1]; exact hk
theorem Cv.fupI (c : Cv) (m : Int) : spl c.fcells [.int .i64 m] 0 = ({ c with i := m } : Cv).fcells := rfl
theorem Cv.fupN (c : Cv) (m : Int) : spl c.fcells [.int .i64 m] 1 = ({ c with n := m } : Cv).fcells := rfl
theorem Cv.fupO (c : Cv) (o : List Int) (h1 : c.o.length = 32) (h : o.length = 32) : spl c.fcells (u8s o) 2 = ({ c with o := o } : Cv).fcells :=
  spl3 [Value.int .i64 c.i, .int .i64 c.n] (u8s c.o) _ (u8s o) (by rw [u8s_length, u8s_length, h1, h])
theorem Cv.fsetTail (c : Cv) (h1 : c.o.length = 32) (k : Nat) (v : Value) : c.fcells.set (34 + k) v = [.int .i64 c.i, .int .i64 c.n] ++ (u8s c.o ++ [Value.slice c.ax c.lx c.cx, .slice c.ay c.ly c.cy, .slice c.ao c.lo c.co, .slice c.an c.ln c.cn].set k v) := by
  unfold Cv.fcells
  rw [← List.append_assoc, List.set_append_right _ _ (by simp [u8s_length, h1]), List.append_assoc]
  congr 3
  simp [u8s_length, h1]
theorem Cv.fupT (c : Cv) (h1 : c.o.length = 32) (k : Nat) (hk : k < 4) (v : Value) : spl c.fcells [v] (34 + k) = [.int .i64 c.i, .int .i64 c.n] ++ (u8s c.o ++ [Value.slice c.ax c.lx c.cx, .slice c.ay c.ly c.cy, .slice c.ao c.lo c.co, .slice c.an c.ln c.cn].set k v) := by
  rw [spl_one _ _ _ (by rw [Cv.flength h1]; omega), Cv.fsetTail c h1 k v]
theorem Cv.fupX (c : Cv) (h1 : c.o.length = 32) (a : Option Addr) (l d : Nat) (S : List Int) : spl c.fcells [.slice a l d] 34 = ({ c with ax := a, lx := l, cx := d, X := S } : Cv).fcells := Cv.fupT c h1 0 (by omega) _
theorem Cv.fupY (c : Cv) (h1 : c.o.length = 32) (a : Option Addr) (l d : Nat) (S : List Int) : spl c.fcells [.slice a l d] 35 = ({ c with ay := a, ly := l, cy := d, Y := S } : Cv).fcells := Cv.fupT c h1 1 (by omega) _
theorem Cv.fupA (c : Cv) (h1 : c.o.length = 32) (a : Option Addr) (l d : Nat) (S : List Int) : spl c.fcells [.slice a l d] 36 = ({ c with ao := a, lo := l, co := d, O := S } : Cv).fcells := Cv.fupT c h1 2 (by omega) _
theorem Cv.fupB (c : Cv) (h1 : c.o.length = 32) (a : Option Addr) (l d : Nat) (S : List Int) : spl c.fcells [.slice a l d] 37 = ({ c with an := a, ln := l, cn := d, N := S } : Cv).fcells := Cv.fupT c h1 3 (by omega) _
def fkPl : List (Nat × Nat) := [(0, 1), (1, 1), (2, 32), (34, 1), (35, 1), (36, 1), (37, 1)]
/-- A field is filled. -/
abbrev fkF (c : Cv) (parts : List (Nat × Value)) : Option (Array Value) := Instr.fill (fun i => fkPl.toArray[i]?) c.fcells.toArray parts
theorem fkF.i (c : Cv) (h1 : c.o.length = 32) (x : Int) (r : List (Nat × Value)) : fkF c ((0, .int .i64 x) :: r) = fkF { c with i := x } r := (fill_cons (vs := [.int .i64 x]) (off := 0) (size := 1) rfl rfl rfl (Cv.flen_le h1 (by omega))).trans (by rw [Cv.fupI])
theorem fkF.n (c : Cv) (h1 : c.o.length = 32) (x : Int) (r : List (Nat × Value)) : fkF c ((1, .int .i64 x) :: r) = fkF { c with n := x } r := (fill_cons (vs := [.int .i64 x]) (off := 1) (size := 1) rfl rfl rfl (Cv.flen_le h1 (by omega))).trans (by rw [Cv.fupN])
theorem fkF.o (c : Cv) (h1 : c.o.length = 32) (x : List Int) (h : x.length = 32) (r : List (Nat × Value)) : fkF c ((2, .agg (u8s x).toArray) :: r) = fkF { c with o := x } r := (fill_cons (vs := u8s x) (off := 2) (size := 32) rfl rfl (by rw [u8s_length, h]) (Cv.flen_le h1 (by omega))).trans (by rw [Cv.fupO c x h1 h])
theorem fkF.x (c : Cv) (h1 : c.o.length = 32) (a : Option Addr) (l d : Nat) (S : List Int) (r : List (Nat × Value)) : fkF c ((3, .slice a l d) :: r) = fkF { c with ax := a, lx := l, cx := d, X := S } r := (fill_cons (vs := [.slice a l d]) (off := 34) (size := 1) rfl rfl rfl (Cv.flen_le h1 (by omega))).trans (by rw [Cv.fupX c h1 a l d S])
theorem fkF.y (c : Cv) (h1 : c.o.length = 32) (a : Option Addr) (l d : Nat) (S : List Int) (r : List (Nat × Value)) : fkF c ((4, .slice a l d) :: r) = fkF { c with ay := a, ly := l, cy := d, Y := S } r := (fill_cons (vs := [.slice a l d]) (off := 35) (size := 1) rfl rfl rfl (Cv.flen_le h1 (by omega))).trans (by rw [Cv.fupY c h1 a l d S])
theorem fkF.a (c : Cv) (h1 : c.o.length = 32) (a : Option Addr) (l d : Nat) (S : List Int) (r : List (Nat × Value)) : fkF c ((5, .slice a l d) :: r) = fkF { c with ao := a, lo := l, co := d, O := S } r := (fill_cons (vs := [.slice a l d]) (off := 36) (size := 1) rfl rfl rfl (Cv.flen_le h1 (by omega))).trans (by rw [Cv.fupA c h1 a l d S])
theorem fkF.b (c : Cv) (h1 : c.o.length = 32) (a : Option Addr) (l d : Nat) (S : List Int) (r : List (Nat × Value)) : fkF c ((6, .slice a l d) :: r) = fkF { c with an := a, ln := l, cn := d, N := S } r := (fill_cons (vs := [.slice a l d]) (off := 37) (size := 1) rfl rfl rfl (Cv.flen_le h1 (by omega))).trans (by rw [Cv.fupB c h1 a l d S])
set_option maxRecDepth 100000 in
theorem build_fk (c : Cv) (h1 : c.o.length = 32) (w : World) : (Instr.build 35 #[(0, .int .i64 c.i), (1, .int .i64 c.n), (2, .agg (u8s c.o).toArray), (3, .slice c.ax c.lx c.cx), (4, .slice c.ay c.ly c.cy), (5, .slice c.ao c.lo c.co), (6, .slice c.an c.ln c.cn)]).run Tryd.prog w = .ok (.agg c.fcells.toArray) w := by
  refine run_build w _ _ _ ((rFk _).trans ?_)
  show fkF c0v _ = _
  refine (fkF.i c0v c0o _ _).trans ?_
  refine (fkF.n _ (by exact c0o) _ _).trans ?_
  refine (fkF.o _ (by exact c0o) _ h1 _).trans ?_
  refine (fkF.x _ (by exact h1) _ _ _ [] _).trans ?_
  refine (fkF.y _ (by exact h1) _ _ _ [] _).trans ?_
  refine (fkF.a _ (by exact h1) _ _ _ [] _).trans ?_
  refine (fkF.b _ (by exact h1) _ _ _ [] _).trans ?_
  rfl
/-- The claim of one tree twice is built. -/
theorem build_ck (c : Cv) (hf : Fk c) (h1 : c.o.length = 32) (w : World) : (Instr.build 27 #[(0, .int .i64 c.n), (1, .int .i64 c.n), (2, .agg (u8s c.o).toArray), (3, .agg (u8s c.o).toArray), (5, .int .i64 c.i), (6, .slice c.ax c.lx c.cx), (7, .slice c.ay c.ly c.cy), (8, .slice c.ao c.lo c.co), (9, .slice c.an c.ln c.cn)]).run Tryd.prog w = .ok (.agg c.cells.toArray) w := by
  obtain ⟨m, n, o, nw, i, aq, ls, cs, S, ax, lx, cx, X, ay, ly, cy, Y, ao, lo, co, O, an, ln, cn, N⟩ := c
  obtain ⟨h2, h3, h4, h5, h6, h7⟩ := hf
  dsimp only at h1 h2 h3 h4 h5 h6 h7 ⊢
  subst h2 h3 h4 h5 h6 h7
  refine build_cl ?_
  refine (clF.m c0v c0o c0n _ _).trans ?_
  refine (clF.n _ (by exact c0o) (by exact c0n) _ _).trans ?_
  refine (clF.o _ (by exact c0o) (by exact c0n) _ h1 _).trans ?_
  refine (clF.w _ (by exact h1) (by exact c0n) _ h1 _).trans ?_
  refine (clF.i _ (by exact h1) (by exact h1) _ _).trans ?_
  refine (clF.x _ (by exact h1) (by exact h1) _ _ _ [] _).trans ?_
  refine (clF.y _ (by exact h1) (by exact h1) _ _ _ [] _).trans ?_
  refine (clF.a _ (by exact h1) (by exact h1) _ _ _ [] _).trans ?_
  refine (clF.b _ (by exact h1) (by exact h1) _ _ _ [] _).trans ?_
  rfl
section
variable {dst : Option Tmp} {ty : TypeId} {pos : String} {aft : Array Edge} {gd : Option (Nat × Bool)} {a : Act} {w : World} {K : Act → World → Prop} {Q : Exit → Act → World → Prop}
set_option maxRecDepth 100000 in
theorem wp_fk {t0 t1 t2 t3 t4 t5 t6 : Nat} (c : Cv) (h1 : c.o.length = 32) (e0 : a.eval (.tmp t0) = .int .i64 c.i) (e1 : a.eval (.tmp t1) = .int .i64 c.n) (e2 : a.eval (.tmp t2) = .agg (u8s c.o).toArray) (e3 : a.eval (.tmp t3) = .slice c.ax c.lx c.cx) (e4 : a.eval (.tmp t4) = .slice c.ay c.ly c.cy) (e5 : a.eval (.tmp t5) = .slice c.ao c.lo c.co) (e6 : a.eval (.tmp t6) = .slice c.an c.ln c.cn)
    (h : K (a.put dst (.agg c.fcells.toArray)) w) :
    Oper.wp Tryd.prog ⟨dst, .build 35 #[(0, .tmp t0), (1, .tmp t1), (2, .tmp t2), (3, .tmp t3), (4, .tmp t4), (5, .tmp t5), (6, .tmp t6)], ty, pos, aft, gd⟩ a w K Q := by
  refine wp_runV (.agg c.fcells.toArray) w ?_ h
  unfold execOp
  simp only [List.map_toArray, List.map_cons, List.map_nil, e0, e1, e2, e3, e4, e5, e6]
  simp only [Sem.run_bind, build_fk c h1, Result.andThen_ok, Sem.run_pure]
set_option maxRecDepth 100000 in
theorem wp_allocF (h : ∀ w1 g, Blk w1 g 35 c0v.fcells → w.heap.size ≤ g → Below w.heap.size w w1 → K (a.put dst (.pointer (some ⟨g, 0, none⟩))) w1) : Oper.wp Tryd.prog ⟨dst, .alloc 35, ty, pos, aft, gd⟩ a w K Q :=
  wp_runV _ _ (zFk a.eval dst ty pos aft gd w) (h _ _ (Blk.made _ _ _) (Nat.le_refl _) ((Below.refl _ _).alloc (Nat.le_refl _) _))
set_option maxRecDepth 100000 in
theorem wp_fadF {x : Operand} {g : Nat} (k off : Nat) (hk : (k, off) ∈ [(0, 0), (1, 1), (2, 2), (3, 34), (4, 35), (5, 36), (6, 37)]) (hx : a.eval x = .pointer (some ⟨g, 0, none⟩)) (h : K (a.put dst (.pointer (some ⟨g, off, none⟩))) w) : Oper.wp Tryd.prog ⟨dst, .fieldAddr 35 x k, ty, pos, aft, gd⟩ a w K Q := by
  simp only [List.mem_cons, Prod.mk.injEq, List.not_mem_nil, or_false] at hk
  rcases hk with ⟨rfl, rfl⟩ | ⟨rfl, rfl⟩ | ⟨rfl, rfl⟩ | ⟨rfl, rfl⟩ | ⟨rfl, rfl⟩ | ⟨rfl, rfl⟩ | ⟨rfl, rfl⟩ <;>
  · unfold Oper.wp execOp
    simp only [hx]
    go_simp
    exact h
set_option maxRecDepth 100000 in
theorem wp_ldI {x : Operand} {g k : Nat} {v : Value} (hx : a.eval x = .pointer (some ⟨g, k, none⟩)) (hc : w.cell? ⟨g, k, none⟩ = some v) (h : K (a.put dst v) w) : Oper.wp Tryd.prog ⟨dst, .load 3 x, ty, pos, aft, gd⟩ a w K Q := by
  unfold Oper.wp execOp
  simp only [hx]
  go_simp
  exact h
set_option maxRecDepth 100000 in
theorem wp_ldB {x : Operand} {g k : Nat} {v : Value} (hx : a.eval x = .pointer (some ⟨g, k, none⟩)) (hc : w.cell? ⟨g, k, none⟩ = some v) (h : K (a.put dst v) w) : Oper.wp Tryd.prog ⟨dst, .load 25 x, ty, pos, aft, gd⟩ a w K Q := by
  unfold Oper.wp execOp
  simp only [hx]
  go_simp
  exact h
set_option maxRecDepth 100000 in
theorem wp_ldD {x : Operand} {g k : Nat} {v : Value} (hx : a.eval x = .pointer (some ⟨g, k, none⟩)) (hc : w.cell? ⟨g, k, none⟩ = some v) (h : K (a.put dst v) w) : Oper.wp Tryd.prog ⟨dst, .load 24 x, ty, pos, aft, gd⟩ a w K Q := by
  unfold Oper.wp execOp
  simp only [hx]
  go_simp
  exact h
end
theorem sl_neQ {w : World} {k l c : Nat} {a : Option Addr} {xs : List Int} {t : TypeId} {m : Int} {cs : List Value} (h : Sl w a l c xs) (ha : 0 < l → ∃ b, a = some ⟨b, 0, none⟩) (hk : Blk w k t (.int .i64 m :: cs)) : 0 < l → Apart k a := fun h0 => by
  obtain ⟨b, rfl⟩ := ha h0
  obtain ⟨l', rfl⟩ : ∃ l', l = l' + 1 := ⟨l - 1, by omega⟩
  exact sl_ne h hk h0

end Go.Proofs.YtconeobaohmbnaaDoor

/-
  Operations one by one: what is moved, a slice's length, cut and place; a claim with neither steps nor paths is built.
-/
namespace Go.Proofs.YtconeobaohmbnaaDoor
open Go.RowKit
set_option linter.unusedVariables false

theorem tmp_forms {a : Act} {k : Nat} {v : Value} (h : a.eval (.tmp k) = v) : a.tmps.getD k undef = v ∧ a.tmps[k]?.getD undef = v := ⟨h, by rw [← Array.getD_eq_getD_getElem?]; exact h⟩
section
variable {dst : Option Tmp} {ty : TypeId} {pos : String} {aft : Array Edge} {gd : Option (Nat × Bool)} {a : Act} {w : World} {K : Act → World → Prop} {Q : Exit → Act → World → Prop}
theorem wp_mv {x : Operand} {v : Value} (hx : a.eval x = v) (h : K (a.put dst v) w) : Oper.wp Tryd.prog ⟨dst, .move x, ty, pos, aft, gd⟩ a w K Q := by
  refine wp_runV v w ?_ h
  unfold execOp
  simp only [hx]
  rfl
set_option maxRecDepth 100000 in
theorem wp_lenD {k n c : Nat} {s : Option Addr} (hx : a.eval (.tmp k) = .slice s n c) (h : K (a.put dst (.int .i64 (n : Int))) w) : Oper.wp Tryd.prog ⟨dst, .call { callee := .builtin .len, args := #[.tmp k], argTypes := #[24] }, ty, pos, aft, gd⟩ a w K Q := by
  obtain ⟨h1, h2⟩ := tmp_forms hx
  go_simp
  exact h
set_option maxRecDepth 100000 in
theorem wp_toD {k l b o n cap q : Nat} (hx : a.eval (.tmp k) = .slice (some ⟨b, o, none⟩) n cap) (hy : a.eval (.tmp l) = .int .i64 (q : Int)) (hq : q ≤ cap) (h : K (a.put dst (.slice (some ⟨b, o, none⟩) q cap)) w) : Oper.wp Tryd.prog ⟨dst, .slice 24 (.tmp k) none (some (.tmp l)) none, ty, pos, aft, gd⟩ a w K Q := by
  obtain ⟨h1, h2⟩ := tmp_forms hx
  obtain ⟨h3, h4⟩ := tmp_forms hy
  have hto := d_to b o n cap q (q : Int) rfl hq w
  go_simp
  exact h
set_option maxRecDepth 100000 in
theorem wp_ixL {k l b o n cap q : Nat} (hx : a.eval (.tmp k) = .slice (some ⟨b, o, none⟩) n cap) (hy : a.eval (.tmp l) = .int .i64 (q : Int)) (hq : q < n) (h : K (a.put dst (.pointer (some ⟨b, o + q, none⟩))) w) : Oper.wp Tryd.prog ⟨dst, .indexAddr 38 (.tmp k) (.tmp l), ty, pos, aft, gd⟩ a w K Q := by
  obtain ⟨h1, h2⟩ := tmp_forms hx
  obtain ⟨h3, h4⟩ := tmp_forms hy
  have hq' : (q : Int) < (n : Int) := by omega
  go_simp
  exact h
/-- A claim with neither steps nor paths. -/
def Cv.bare (m n : Int) (o nw : List Int) (i : Int) (ax : Option Addr) (lx cx : Nat) (X : List Int) : Cv := ⟨m, n, o, nw, i, none, 0, 0, [], ax, lx, cx, X, ax, lx, cx, X, none, 0, 0, [], none, 0, 0, []⟩
set_option maxRecDepth 100000 in
theorem build_bare (m n : Int) (o nw : List Int) (i : Int) (ax : Option Addr) (lx cx : Nat) (X : List Int) (h1 : o.length = 32) (h2 : nw.length = 32) (w : World) : (Instr.build 27 #[(0, .int .i64 m), (1, .int .i64 n), (2, .agg (u8s o).toArray), (3, .agg (u8s nw).toArray), (5, .int .i64 i), (6, .slice ax lx cx), (7, .slice ax lx cx)]).run Tryd.prog w = .ok (.agg (Cv.bare m n o nw i ax lx cx X).cells.toArray) w := by
  refine build_cl ?_
  refine (clF.m c0v c0o c0n _ _).trans ?_
  refine (clF.n _ (by exact c0o) (by exact c0n) _ _).trans ?_
  refine (clF.o _ (by exact c0o) (by exact c0n) _ h1 _).trans ?_
  refine (clF.w _ (by exact h1) (by exact c0n) _ h2 _).trans ?_
  refine (clF.i _ (by exact h1) (by exact h2) _ _).trans ?_
  refine (clF.x _ (by exact h1) (by exact h2) _ _ _ [] _).trans ?_
  refine (clF.y _ (by exact h1) (by exact h2) _ _ _ [] _).trans ?_
  rfl
set_option maxRecDepth 100000 in
theorem wp_bare {t0 t1 t2 t3 t5 t6 t7 : Nat} {m n : Int} {o nw : List Int} {i : Int} {ax : Option Addr} {lx cx : Nat} (X : List Int) (h1 : o.length = 32) (h2 : nw.length = 32)
    (e0 : a.eval (.tmp t0) = .int .i64 m) (e1 : a.eval (.tmp t1) = .int .i64 n) (e2 : a.eval (.tmp t2) = .agg (u8s o).toArray) (e3 : a.eval (.tmp t3) = .agg (u8s nw).toArray) (e5 : a.eval (.tmp t5) = .int .i64 i) (e6 : a.eval (.tmp t6) = .slice ax lx cx) (e7 : a.eval (.tmp t7) = .slice ax lx cx)
    (h : K (a.put dst (.agg (Cv.bare m n o nw i ax lx cx X).cells.toArray)) w) :
    Oper.wp Tryd.prog ⟨dst, .build 27 #[(0, .tmp t0), (1, .tmp t1), (2, .tmp t2), (3, .tmp t3), (5, .tmp t5), (6, .tmp t6), (7, .tmp t7)], ty, pos, aft, gd⟩ a w K Q := by
  refine wp_runV _ w ?_ h
  unfold execOp
  simp only [List.map_toArray, List.map_cons, List.map_nil, e0, e1, e2, e3, e5, e6, e7]
  simp only [Sem.run_bind, build_bare m n o nw i ax lx cx X h1 h2, Result.andThen_ok, Sem.run_pure]
end

end Go.Proofs.YtconeobaohmbnaaDoor

/-
  The walk of ExtractAccepts.
-/
namespace Go.Proofs.YtconeobaohmbnaaDoor
open Go.RowKit
set_option linter.unusedVariables false

theorem uCl : ∃ fs, Tryd.prog.underlying 27 = some (.struct fs) := ⟨_, Tryd.underlying27⟩
theorem Cv.range {c : Cv} {w : World} {g : Nat} {t : TypeId} (h : Blk w g t c.cells) : w.rangeAt g 0 c.cells := h.range 0 c.cells (by simp)
set_option maxRecDepth 100000 in
set_option maxHeartbeats 2000000 in
theorem accepts_walk (c : Cv) (w : World) (hi : c.In w) (hk : KT w) :
    Calls Tryd.prog 3 #[.agg c.cells.toArray] w fun r w' => r = .returned (.bool true) ∧ Below w.heap.size w w' := by
  have HI := hide hi
  have HK := hide hk
  have HL := hide (Cv.length hi.lo hi.ln)
  clear hi hk
  obtain ⟨fs, hu⟩ := uCl
  go_enter Tryd.func3, Tryd.ntmps3
  go_wp2_with (refine step_box rfl rfl ?_)
  intro z g1 hr1 hl1 hb1
  have G1 := hide hr1
  have B1 := hide hb1
  clear hr1 hl1 hb1
  go_wp2_with fail
  refine wp_region_noPanic ?_
  have Z0 := hide ((Below.refl z.heap.size z).drew)
  have HS : Hid ((Tryd.prog.info? 27).map (·.size) = some c.cells.length) := hide (by rw [wCl.size, HL.out])
  refine wp_region_held_drew (S := fun v : World => Below z.heap.size z v) (by kernel_rfl) Z0.out (fun hHeld => ?_)
  refine takeH 0 3 (.agg c.cells.toArray) hHeld rfl rfl (by kernel_rfl) (by kernel_rfl) (by kernel_rfl) (fun _ _ _ h => h) (yieldsIf_load_mid (by rfl) _ _ rfl g1 0 rfl _ _ (fun v hv => Cv.range (G1.out.on hv)) hu rfl HS.out) ?_
  simp only [Act.put, List.setIfInBounds_toArray, List.set_cons_zero, List.set_cons_succ]
  refine takeH 3 6 (.agg c.cells.toArray) hHeld rfl rfl (by kernel_rfl) (by kernel_rfl) (by kernel_rfl) (fun _ _ _ h => h) (yieldsIf_load_mid (by rfl) _ _ rfl g1 0 rfl _ _ (fun v hv => Cv.range (G1.out.on hv)) hu rfl HS.out) ?_
  simp only [Act.put, List.setIfInBounds_toArray, List.set_cons_zero, List.set_cons_succ]
  refine wpAnyH_ready (rs := [1]) (by kernel_rfl) (by simp) (AllReadyH.cons rfl (fun K hK => ?_) AllReadyH.nil)
  rw [if_pos (by rfl)]
  go_simp
  refine (lent9_any c _ ((HI.out.below B1.out).below Z0.out)).mono ?_
  rintro e v1 ⟨aq, cs, ax, cx, ay, cy, ao, co, an, cn, rfl, hin, hv1⟩
  have Z1 := hide (Z0.out.trans (hv1.mono Z0.out.size))
  have HIN := hide hin
  clear hin
  refine hK.out _ _ Z1.out (fun hHeld => ?_)
  clear hK K
  refine wpAnyH_ready (rs := [2]) (by kernel_rfl) (by simp) (AllReadyH.cons rfl (fun K hK => ?_) AllReadyH.nil)
  rw [if_pos (by rfl)]
  go_simp
  refine (accepted_any _ _ HIN.out ((HK.out.below B1.out HK.out.lt).below Z1.out (HK.out.below B1.out HK.out.lt).lt)).mono ?_
  rintro e v2 ⟨rfl, hv2⟩
  have Z2 := hide (Z1.out.trans (hv2.mono Z1.out.size))
  rw [show (c.moved aq cs ax cx ay cy ao co an cn).acc = c.acc from rfl]
  refine hK.out _ _ Z2.out (fun hHeld => ?_)
  clear hK K
  refine wpAnyH_ready (rs := [4]) (by kernel_rfl) (by simp) (AllReadyH.cons rfl (fun K hK => ?_) AllReadyH.nil)
  rw [if_pos (by rfl)]
  go_simp
  refine (acceptedD_any c _ ((HI.out.below B1.out).below Z2.out)).mono ?_
  rintro e v3 ⟨rfl, hv3⟩
  have Z3 := hide (Z2.out.trans (hv3.mono Z2.out.size))
  refine hK.out _ _ Z3.out (fun hHeld => ?_)
  clear hK K
  refine takeH 5 8 (.bool true) hHeld rfl rfl (by kernel_rfl) (by kernel_rfl) (by kernel_rfl) (fun _ _ _ h => h) (Or.inl ⟨by rfl, fun w _ => by go_simp⟩) ?_
  simp only [Act.put, List.setIfInBounds_toArray, List.set_cons_zero, List.set_cons_succ]
  refine takeH 6 2 (.bool true) hHeld rfl rfl (by kernel_rfl) (by kernel_rfl) (by kernel_rfl) (fun _ _ _ h => h) (Or.inl ⟨by rfl, fun w _ => by go_simp⟩) ?_
  simp only [Act.put, List.setIfInBounds_toArray, List.set_cons_zero, List.set_cons_succ]
  refine wpAnyH_done (by kernel_rfl) ?_ _
  refine NoPanic.normal ?_
  clear hHeld hu
  go_wp2
  go_ret
  exact ⟨rfl, B1.out.trans (Z3.out.mono B1.out.size)⟩

end Go.Proofs.YtconeobaohmbnaaDoor

/-
  A list of so many values, spelled out.
-/
namespace Go.Proofs.YtconeobaohmbnaaDoor
open Go.RowKit

theorem listN (n : Nat) (L : List Value) (h : L.length = n) : L = (List.range n).map (fun k => L.getD k undef) := by
  apply List.ext_getElem?
  intro i
  by_cases hi : i < n
  · simp [List.getD, hi, h]
  · rw [List.getElem?_eq_none (by omega), List.getElem?_eq_none (by simp; omega)]
theorem arr_getD (L : List Value) (k : Nat) : (Array.mk L).getD k undef = L.getD k undef := by simp [Array.getD_eq_getD_getElem?, List.getD]
set_option maxRecDepth 100000 in
theorem listF119 (L : List Value) (h : L.length = 119) : ∃ f : Nat → Value, (∀ k, f k = (Array.mk L).getD k undef) ∧ L = [f 0, f 1, f 2, f 3, f 4, f 5, f 6, f 7, f 8, f 9, f 10, f 11, f 12, f 13, f 14, f 15, f 16, f 17, f 18, f 19, f 20, f 21, f 22, f 23, f 24, f 25, f 26, f 27, f 28, f 29, f 30, f 31, f 32, f 33, f 34, f 35, f 36, f 37, f 38, f 39, f 40, f 41, f 42, f 43, f 44, f 45, f 46, f 47, f 48, f 49, f 50, f 51, f 52, f 53, f 54, f 55, f 56, f 57, f 58, f 59, f 60, f 61, f 62, f 63, f 64, f 65, f 66, f 67, f 68, f 69, f 70, f 71, f 72, f 73, f 74, f 75, f 76, f 77, f 78, f 79, f 80, f 81, f 82, f 83, f 84, f 85, f 86, f 87, f 88, f 89, f 90, f 91, f 92, f 93, f 94, f 95, f 96, f 97, f 98, f 99, f 100, f 101, f 102, f 103, f 104, f 105, f 106, f 107, f 108, f 109, f 110, f 111, f 112, f 113, f 114, f 115, f 116, f 117, f 118] := by
  exact ⟨fun k => L.getD k undef, fun k => (arr_getD L k).symm, (listN 119 L h).trans rfl⟩
set_option maxRecDepth 100000 in
theorem listF151 (L : List Value) (h : L.length = 151) : ∃ f : Nat → Value, (∀ k, f k = (Array.mk L).getD k undef) ∧ L = [f 0, f 1, f 2, f 3, f 4, f 5, f 6, f 7, f 8, f 9, f 10, f 11, f 12, f 13, f 14, f 15, f 16, f 17, f 18, f 19, f 20, f 21, f 22, f 23, f 24, f 25, f 26, f 27, f 28, f 29, f 30, f 31, f 32, f 33, f 34, f 35, f 36, f 37, f 38, f 39, f 40, f 41, f 42, f 43, f 44, f 45, f 46, f 47, f 48, f 49, f 50, f 51, f 52, f 53, f 54, f 55, f 56, f 57, f 58, f 59, f 60, f 61, f 62, f 63, f 64, f 65, f 66, f 67, f 68, f 69, f 70, f 71, f 72, f 73, f 74, f 75, f 76, f 77, f 78, f 79, f 80, f 81, f 82, f 83, f 84, f 85, f 86, f 87, f 88, f 89, f 90, f 91, f 92, f 93, f 94, f 95, f 96, f 97, f 98, f 99, f 100, f 101, f 102, f 103, f 104, f 105, f 106, f 107, f 108, f 109, f 110, f 111, f 112, f 113, f 114, f 115, f 116, f 117, f 118, f 119, f 120, f 121, f 122, f 123, f 124, f 125, f 126, f 127, f 128, f 129, f 130, f 131, f 132, f 133, f 134, f 135, f 136, f 137, f 138, f 139, f 140, f 141, f 142, f 143, f 144, f 145, f 146, f 147, f 148, f 149, f 150] := by
  exact ⟨fun k => L.getD k undef, fun k => (arr_getD L k).symm, (listN 151 L h).trans rfl⟩

end Go.Proofs.YtconeobaohmbnaaDoor

/-
  The program's and the document's Inclusion.
-/
namespace Go.Proofs.YtconeobaohmbnaaDoor
open Go.RowKit
set_option linter.unusedVariables false


set_option maxRecDepth 100000 in
set_option maxHeartbeats 2000000 in
theorem incl_any (a : Option Addr) (n cap : Nat) (xs : List Int) (i m : Int) (w : World) (hs : Ds w a n cap xs) (hk : KT w) :
    Calls Tryd.prog 18 #[.slice a n cap, .int .i64 i, .int .i64 m] w fun r w' => ∃ v, r = .returned (.tuple #[v, .int .i64 (inE n i m)]) ∧ (∃ q, DOwn w' w.heap.size v q (inP xs n i m)) ∧ Below w.heap.size w w' := by
  have HS := hide hs
  have HK := hide hk
  have hcap := hs.hcap
  have hre := hs.hreach
  clear hs hk
  by_cases h1 : m < 1
  · skip
    have EE := hide (show inE n i m = 40 by unfold inE; rw [if_pos (by omega)])
    have EP := hide (show inP xs n i m = [] by unfold inP; rw [if_pos (by omega)])
    rw [EE.out, EP.out]
    go_enter Tryd.func18, Tryd.ntmps18
    go_wp2_with (refine step_box1 rfl rfl rfl ?_)
    intro w1 gd hr1 hl1 hb1
    have GD := hide hr1
    clear hr1
    go_wp2_with (refine step_box1 rfl rfl rfl ?_)
    intro w2 gi hr2 hl2 hb2
    have GI := hide hr2
    have GD2 := hide (GD.out.below hb2 GD.out.lt)
    have B2 := hide (hb1.trans (hb2.mono hb1.size))
    have hcd : w2.cell? ⟨gd, 0, none⟩ = some (.slice a n cap) := by rw [GD2.out.cell]; rfl
    have hci : w2.cell? ⟨gi, 0, none⟩ = some (.int .i64 i) := by rw [GI.out.cell]; rfl
    clear hr2 GD hb1 hb2
    go_wp2
    go_ret2
    exact ⟨_, rfl, ⟨0, DOwn.nil _ _⟩, B2.out⟩
  by_cases h2 : (n : Int) < m
  · skip
    have EE := hide (show inE n i m = 40 by unfold inE; rw [if_pos (by omega)])
    have EP := hide (show inP xs n i m = [] by unfold inP; rw [if_pos (by omega)])
    rw [EE.out, EP.out]
    go_enter Tryd.func18, Tryd.ntmps18
    go_wp2_with (refine step_box1 rfl rfl rfl ?_)
    intro w1 gd hr1 hl1 hb1
    have GD := hide hr1
    clear hr1
    go_wp2_with (refine step_box1 rfl rfl rfl ?_)
    intro w2 gi hr2 hl2 hb2
    have GI := hide hr2
    have GD2 := hide (GD.out.below hb2 GD.out.lt)
    have B2 := hide (hb1.trans (hb2.mono hb1.size))
    have hcd : w2.cell? ⟨gd, 0, none⟩ = some (.slice a n cap) := by rw [GD2.out.cell]; rfl
    have hci : w2.cell? ⟨gi, 0, none⟩ = some (.int .i64 i) := by rw [GI.out.cell]; rfl
    clear hr2 GD hb1 hb2
    go_wp2
    go_ret2
    exact ⟨_, rfl, ⟨0, DOwn.nil _ _⟩, B2.out⟩
  by_cases h3 : i < 0
  · skip
    have EE := hide (show inE n i m = 40 by unfold inE; rw [if_pos (by omega)])
    have EP := hide (show inP xs n i m = [] by unfold inP; rw [if_pos (by omega)])
    rw [EE.out, EP.out]
    go_enter Tryd.func18, Tryd.ntmps18
    go_wp2_with (refine step_box1 rfl rfl rfl ?_)
    intro w1 gd hr1 hl1 hb1
    have GD := hide hr1
    clear hr1
    go_wp2_with (refine step_box1 rfl rfl rfl ?_)
    intro w2 gi hr2 hl2 hb2
    have GI := hide hr2
    have GD2 := hide (GD.out.below hb2 GD.out.lt)
    have B2 := hide (hb1.trans (hb2.mono hb1.size))
    have hcd : w2.cell? ⟨gd, 0, none⟩ = some (.slice a n cap) := by rw [GD2.out.cell]; rfl
    have hci : w2.cell? ⟨gi, 0, none⟩ = some (.int .i64 i) := by rw [GI.out.cell]; rfl
    clear hr2 GD hb1 hb2
    go_wp2
    go_ret2
    exact ⟨_, rfl, ⟨0, DOwn.nil _ _⟩, B2.out⟩
  by_cases h4 : m ≤ i
  · skip
    have EE := hide (show inE n i m = 40 by unfold inE; rw [if_pos (by omega)])
    have EP := hide (show inP xs n i m = [] by unfold inP; rw [if_pos (by omega)])
    rw [EE.out, EP.out]
    go_enter Tryd.func18, Tryd.ntmps18
    go_wp2_with (refine step_box1 rfl rfl rfl ?_)
    intro w1 gd hr1 hl1 hb1
    have GD := hide hr1
    clear hr1
    go_wp2_with (refine step_box1 rfl rfl rfl ?_)
    intro w2 gi hr2 hl2 hb2
    have GI := hide hr2
    have GD2 := hide (GD.out.below hb2 GD.out.lt)
    have B2 := hide (hb1.trans (hb2.mono hb1.size))
    have hcd : w2.cell? ⟨gd, 0, none⟩ = some (.slice a n cap) := by rw [GD2.out.cell]; rfl
    have hci : w2.cell? ⟨gi, 0, none⟩ = some (.int .i64 i) := by rw [GI.out.cell]; rfl
    clear hr2 GD hb1 hb2
    go_wp2
    go_ret2
    exact ⟨_, rfl, ⟨0, DOwn.nil _ _⟩, B2.out⟩
  obtain ⟨i, rfl⟩ : ∃ k : Nat, i = (k : Int) := ⟨i.toNat, by omega⟩
  obtain ⟨m, rfl⟩ : ∃ k : Nat, m = (k : Int) := ⟨m.toNat, by omega⟩
  have EE := hide (show inE n i m = 0 by unfold inE; rw [if_neg (by omega)])
  have EP := hide (show inP xs n i m = path (sub xs 0 m) (i - 0) by unfold inP; rw [if_neg (by omega)]; simp)
  rw [EE.out, EP.out]
  obtain ⟨bl, o, ea⟩ := HS.out.place (by omega)
  subst ea
  go_enter Tryd.func18, Tryd.ntmps18
  go_wp2_with (refine step_box1 rfl rfl rfl ?_)
  intro w1 gd hr1 hl1 hb1
  have GD := hide hr1
  clear hr1
  go_wp2_with (refine step_box1 rfl rfl rfl ?_)
  intro w2 gi hr2 hl2 hb2
  have GI : Hid (Blk w2 gi 3 [.int .i64 (i : Int)]) := hide hr2
  have GD2 := hide (GD.out.below hb2 GD.out.lt)
  have B2 := hide (hb1.trans (hb2.mono hb1.size))
  have hcd : w2.cell? ⟨gd, 0, none⟩ = some (.slice (some ⟨bl, o, none⟩) n cap) := by rw [GD2.out.cell]; rfl
  have hci : w2.cell? ⟨gi, 0, none⟩ = some (.int .i64 (i : Int)) := by rw [GI.out.cell]; rfl
  clear hr2 GD hb1 hb2
  go_wp2_with (refine step_alloc zSp rfl ?_)
  intro w3 gl hr3 hl3 hb3
  have GL := hide hr3
  clear hr3
  go_wp2_with (refine step_storeA (vs := spn i (i + 1)) wSp rfl rfl rfl GL.out rfl (spn_one _ _) rfl ?_)
  intro w4 hg4 hbut4
  have B24 := hide (hb3.trans (hbut4.below hl3))
  have GL4 := hide hg4
  have GI4 := hide (GI.out.below B24.out GI.out.lt)
  have GD4 := hide (GD2.out.below B24.out GD2.out.lt)
  have B4 := hide (B2.out.trans (B24.out.mono B2.out.size))
  clear hb3 hbut4 hg4 GL GI GD2 B2 B24 hcd hci
  go_wp2_with (refine step_alloc zFn rfl ?_)
  intro w5 gp hr5 hl5 hb5
  have GP := hide hr5
  have GL5 := hide (GL4.out.below hb5 GL4.out.lt)
  have GI5 := hide (GI4.out.below hb5 GI4.out.lt)
  have GD5 := hide (GD4.out.below hb5 GD4.out.lt)
  have nl : gl ≠ gp := by have := GL4.out.lt; omega
  have ni : gi ≠ gp := by have := GI4.out.lt; omega
  have nd' : gd ≠ gp := by have := GD4.out.lt; omega
  have B5 := hide (B4.out.trans (hb5.mono B4.out.size))
  have hwp : w.heap.size ≤ gp := Nat.le_trans B4.out.size hl5
  have hcp : w5.cell? ⟨gp, 0, none⟩ = some .nilFunc := by rw [GP.out.cell]; rfl
  have hfp := GP.out.free 0
  clear hr5 hb5 GL4 GI4 GD4 B4 hl5 hl3 hl2 hl1
  go_wp2_with fail
  have hg6 := GP.out.set 0 (.func (.func 41) #[] #[.pointer (some ⟨gl, 0, none⟩), .pointer (some ⟨gi, 0, none⟩), .pointer (some ⟨gp, 0, none⟩), .pointer (some ⟨gd, 0, none⟩)])
  have hbut6 := But.setCell w5 gp 0 (.func (.func 41) #[] #[.pointer (some ⟨gl, 0, none⟩), .pointer (some ⟨gi, 0, none⟩), .pointer (some ⟨gp, 0, none⟩), .pointer (some ⟨gd, 0, none⟩)])
  have B6 := hide (B5.out.trans (hbut6.below hwp))
  have E6 := hide (show Env _ gl gi gp gd i bl o n cap xs from ⟨GL5.out.but hbut6 nl, GI5.out.but hbut6 ni, hg6, GD5.out.but hbut6 nd', HS.out.below B6.out, HK.out.below B6.out HK.out.lt⟩)
  refine (incl1_any gl gi gp gd i bl o n cap xs (by omega) m 0 m _ (by omega) (by omega) (by omega) (by omega) E6.out).mono ?_
  rintro r w7 ⟨v, rfl, ⟨q, ho⟩, hb7⟩
  go_wp2
  go_ret2
  exact ⟨_, rfl, ⟨_, ho.base B6.out.size⟩, B6.out.trans (hb7.mono B6.out.size)⟩

end Go.Proofs.YtconeobaohmbnaaDoor

/-
  The program's and the document's Consistency.
-/
namespace Go.Proofs.YtconeobaohmbnaaDoor
open Go.RowKit
set_option linter.unusedVariables false

set_option maxRecDepth 100000 in
set_option maxHeartbeats 2000000 in
theorem cons_any (a : Option Addr) (n cap : Nat) (xs : List Int) (i m : Int) (w : World) (hs : Ds w a n cap xs) (hk : KT w) :
    Calls Tryd.prog 17 #[.slice a n cap, .int .i64 i, .int .i64 m] w fun r w' => ∃ v, r = .returned (.tuple #[v, .int .i64 (coE n i m)]) ∧ (∃ q, DOwn w' w.heap.size v q (coP xs n i m)) ∧ Below w.heap.size w w' := by
  have HS := hide hs
  have HK := hide hk
  have hcap := hs.hcap
  have hre := hs.hreach
  clear hs hk
  by_cases h1 : i < 1
  · skip
    have EE := hide (show coE n i m = 40 by unfold coE; rw [if_pos (by omega)])
    have EP := hide (show coP xs n i m = [] by unfold coP; rw [if_pos (by omega)])
    rw [EE.out, EP.out]
    go_enter Tryd.func17, Tryd.ntmps17
    go_wp2_with (refine step_box1 rfl rfl rfl ?_)
    intro w1 gd hr1 hl1 hb1
    have GD := hide hr1
    clear hr1
    go_wp2_with (refine step_box1 rfl rfl rfl ?_)
    intro w2 gi hr2 hl2 hb2
    have GI : Hid (Blk w2 gi 3 [.int .i64 i]) := hide hr2
    have GD2 := hide (GD.out.below hb2 GD.out.lt)
    have B2 := hide (hb1.trans (hb2.mono hb1.size))
    have hcd : w2.cell? ⟨gd, 0, none⟩ = some (.slice a n cap) := by rw [GD2.out.cell]; rfl
    have hci : w2.cell? ⟨gi, 0, none⟩ = some (.int .i64 i) := by rw [GI.out.cell]; rfl
    clear hr2 GD hb1 hb2
    go_wp2
    go_ret2
    exact ⟨_, rfl, ⟨0, DOwn.nil _ _⟩, B2.out⟩
  by_cases h2 : m < i
  · skip
    have EE := hide (show coE n i m = 40 by unfold coE; rw [if_pos (by omega)])
    have EP := hide (show coP xs n i m = [] by unfold coP; rw [if_pos (by omega)])
    rw [EE.out, EP.out]
    go_enter Tryd.func17, Tryd.ntmps17
    go_wp2_with (refine step_box1 rfl rfl rfl ?_)
    intro w1 gd hr1 hl1 hb1
    have GD := hide hr1
    clear hr1
    go_wp2_with (refine step_box1 rfl rfl rfl ?_)
    intro w2 gi hr2 hl2 hb2
    have GI : Hid (Blk w2 gi 3 [.int .i64 i]) := hide hr2
    have GD2 := hide (GD.out.below hb2 GD.out.lt)
    have B2 := hide (hb1.trans (hb2.mono hb1.size))
    have hcd : w2.cell? ⟨gd, 0, none⟩ = some (.slice a n cap) := by rw [GD2.out.cell]; rfl
    have hci : w2.cell? ⟨gi, 0, none⟩ = some (.int .i64 i) := by rw [GI.out.cell]; rfl
    clear hr2 GD hb1 hb2
    go_wp2
    go_ret2
    exact ⟨_, rfl, ⟨0, DOwn.nil _ _⟩, B2.out⟩
  by_cases h3 : (n : Int) < m
  · skip
    have EE := hide (show coE n i m = 40 by unfold coE; rw [if_pos (by omega)])
    have EP := hide (show coP xs n i m = [] by unfold coP; rw [if_pos (by omega)])
    rw [EE.out, EP.out]
    go_enter Tryd.func17, Tryd.ntmps17
    go_wp2_with (refine step_box1 rfl rfl rfl ?_)
    intro w1 gd hr1 hl1 hb1
    have GD := hide hr1
    clear hr1
    go_wp2_with (refine step_box1 rfl rfl rfl ?_)
    intro w2 gi hr2 hl2 hb2
    have GI : Hid (Blk w2 gi 3 [.int .i64 i]) := hide hr2
    have GD2 := hide (GD.out.below hb2 GD.out.lt)
    have B2 := hide (hb1.trans (hb2.mono hb1.size))
    have hcd : w2.cell? ⟨gd, 0, none⟩ = some (.slice a n cap) := by rw [GD2.out.cell]; rfl
    have hci : w2.cell? ⟨gi, 0, none⟩ = some (.int .i64 i) := by rw [GI.out.cell]; rfl
    clear hr2 GD hb1 hb2
    go_wp2
    go_ret2
    exact ⟨_, rfl, ⟨0, DOwn.nil _ _⟩, B2.out⟩
  obtain ⟨i, rfl⟩ : ∃ k : Nat, i = (k : Int) := ⟨i.toNat, by omega⟩
  obtain ⟨m, rfl⟩ : ∃ k : Nat, m = (k : Int) := ⟨m.toNat, by omega⟩
  have EE := hide (show coE n i m = 0 by unfold coE; rw [if_neg (by omega)])
  have EP := hide (show coP xs n i m = steps (sub xs 0 m) (i - 0) (beg 0) by unfold coP; rw [if_neg (by omega)]; simp [beg])
  rw [EE.out, EP.out]
  obtain ⟨bl, o, ea⟩ := HS.out.place (by omega)
  subst ea
  go_enter Tryd.func17, Tryd.ntmps17
  go_wp2_with (refine step_box1 rfl rfl rfl ?_)
  intro w1 gd hr1 hl1 hb1
  have GD := hide hr1
  clear hr1
  go_wp2_with (refine step_box1 rfl rfl rfl ?_)
  intro w2 gi hr2 hl2 hb2
  have GI : Hid (Blk w2 gi 3 [.int .i64 (i : Int)]) := hide hr2
  have GD2 := hide (GD.out.below hb2 GD.out.lt)
  have B2 := hide (hb1.trans (hb2.mono hb1.size))
  have hcd : w2.cell? ⟨gd, 0, none⟩ = some (.slice (some ⟨bl, o, none⟩) n cap) := by rw [GD2.out.cell]; rfl
  have hci : w2.cell? ⟨gi, 0, none⟩ = some (.int .i64 (i : Int)) := by rw [GI.out.cell]; rfl
  clear hr2 GD hb1 hb2
  go_wp2_with (refine step_alloc zSp rfl ?_)
  intro w3 gl hr3 hl3 hb3
  have GL := hide hr3
  clear hr3
  go_wp2_with (refine step_storeA (vs := spn 0 i) wSp rfl rfl rfl GL.out rfl (spn_one _ _) rfl ?_)
  intro w4 hg4 hbut4
  have B24 := hide (hb3.trans (hbut4.below hl3))
  have GL4 := hide hg4
  have GI4 := hide (GI.out.below B24.out GI.out.lt)
  have GD4 := hide (GD2.out.below B24.out GD2.out.lt)
  have B4 := hide (B2.out.trans (B24.out.mono B2.out.size))
  clear hb3 hbut4 hg4 GL GI GD2 B2 B24 hcd hci
  go_wp2_with (refine step_alloc zFn rfl ?_)
  intro w5 gp hr5 hl5 hb5
  have GP := hide hr5
  have GL5 := hide (GL4.out.below hb5 GL4.out.lt)
  have GI5 := hide (GI4.out.below hb5 GI4.out.lt)
  have GD5 := hide (GD4.out.below hb5 GD4.out.lt)
  have nl : gl ≠ gp := by have := GL4.out.lt; omega
  have ni : gi ≠ gp := by have := GI4.out.lt; omega
  have nd' : gd ≠ gp := by have := GD4.out.lt; omega
  have B5 := hide (B4.out.trans (hb5.mono B4.out.size))
  have hwp : w.heap.size ≤ gp := Nat.le_trans B4.out.size hl5
  have hcp : w5.cell? ⟨gp, 0, none⟩ = some .nilFunc := by rw [GP.out.cell]; rfl
  have hfp := GP.out.free 0
  clear hr5 hb5 GL4 GI4 GD4 B4 hl5 hl3 hl2 hl1
  go_wp2_with fail
  have hg6 := GP.out.set 0 (.func (.func 38) #[] #[.pointer (some ⟨gl, 0, none⟩), .pointer (some ⟨gi, 0, none⟩), .pointer (some ⟨gd, 0, none⟩), .pointer (some ⟨gp, 0, none⟩)])
  have hbut6 := But.setCell w5 gp 0 (.func (.func 38) #[] #[.pointer (some ⟨gl, 0, none⟩), .pointer (some ⟨gi, 0, none⟩), .pointer (some ⟨gd, 0, none⟩), .pointer (some ⟨gp, 0, none⟩)])
  have B6 := hide (B5.out.trans (hbut6.below hwp))
  have E6 := hide (show Enc _ gl gi gd gp i bl o n cap xs from ⟨GL5.out.but hbut6 nl, GI5.out.but hbut6 ni, hg6, GD5.out.but hbut6 nd', HS.out.below B6.out, HK.out.below B6.out HK.out.lt⟩)
  refine (cons1_any gl gi gd gp i bl o n cap xs (by omega) m 0 m _ (by omega) (by omega) (by omega) (by omega) E6.out).mono ?_
  rintro r w7 ⟨v, rfl, ⟨q, ho⟩, hb7⟩
  go_wp2
  go_ret2
  exact ⟨_, rfl, ⟨_, ho.base B6.out.size⟩, B6.out.trans (hb7.mono B6.out.size)⟩

end Go.Proofs.YtconeobaohmbnaaDoor

/-
  The walk of ExtractHonest.
-/
namespace Go.Proofs.YtconeobaohmbnaaDoor
open Go.RowKit
set_option linter.unusedVariables false

section
variable {dst : Option Tmp} {ty : TypeId} {pos : String} {aft : Array Edge} {gd : Option (Nat × Bool)} {ops : Array Oper} {rest : List Oper} {a : Act} {w : World} {Q : Exit → Act → World → Prop}
set_option maxRecDepth 100000 in
theorem step_1D {x : Operand} {ds : List Int} (hw : Region.wanted ⟨dst, .buildSlice 24 1 #[(0, x)], ty, pos, aft, gd⟩ (yielded ops a.tmps) = true) (hx : a.eval x = .agg (u8s ds).toArray) (hd : ds.length = 32) (hb : isB ds)
    (h : ∀ w1 g, Ds w1 (some ⟨g, 0, none⟩) 1 1 ds → Below w.heap.size w w1 → wpList Tryd.prog ops Q rest (a.put dst (.slice (some ⟨g, 0, none⟩) 1 1)) w1) :
    wpList Tryd.prog ops Q (⟨dst, .buildSlice 24 1 #[(0, x)], ty, pos, aft, gd⟩ :: rest) a w :=
  BigFrame.wpList_want hw fun K hK => wp_oneD hx hd hb fun w1 g h1 h2 => hK _ _ (h w1 g h1 h2)
end
theorem into9 (i : Int) (n : Nat) (h0 : 0 < n) (hn : n ≤ 4398046511104) : ∃ j : Nat, j < n ∧ (wrap64 (i.tmod n + n)).tmod n = (j : Int) := by
  have hp : (0 : Int) < (n : Int) := by omega
  have h1 := Int.tmod_lt_of_pos i hp
  have h2 := Int.lt_tmod_of_pos i hp
  generalize i.tmod n = r at *
  have e : wrap64 (r + n) = r + n := by unfold wrap64; omega
  rw [e, Int.tmod_eq_emod_of_nonneg (by omega)]
  have h3 := Int.emod_nonneg (r + n) (show (n : Int) ≠ 0 by omega)
  have h4 := Int.emod_lt_of_pos (r + n) hp
  exact ⟨((r + n) % n).toNat, by omega, by omega⟩
/-- What is in each slot of the region that makes the claim, once it is filled. -/
def hwV (m i N bl ol cl b off cap : Nat) (RO RN X : List Int) (ai : Option Addr) (li ci : Nat) (z : World) : Nat → Value → World → Prop
  | 0, v, _ | 4, v, _ => v = .int .i64 (m : Int)
  | 1, v, _ | 3, v, _ | 7, v, _ => v = .slice (some ⟨bl, ol, none⟩) N cl
  | 2, v, _ => v = .int .i64 (N : Int)
  | 5, v, _ => v = .slice (some ⟨bl, ol, none⟩) m cl
  | 6, v, _ => v = .agg (u8s RO).toArray
  | 8, v, _ => v = .agg (u8s RN).toArray
  | 9, v, _ | 11, v, _ | 15, v, _ => v = .int .i64 (i : Int)
  | 10, v, _ | 14, v, _ => v = .slice (some ⟨b, off, none⟩) N cap
  | 12, v, _ | 16, v, _ => v = .pointer (some ⟨b, off + i, none⟩)
  | 13, v, _ | 17, v, _ => v = .slice ai li ci
  | 18, v, _ => v = .agg (Cv.bare m N RO RN i ai li ci X).cells.toArray
  | 19, v, w => ∃ g, v = .pointer (some ⟨g, 0, none⟩) ∧ Blk w g 27 c0v.cells ∧ z.heap.size ≤ g
  | _, _, _ => True
theorem hwV_mono (m i N bl ol cl b off cap : Nat) (RO RN X : List Int) (ai : Option Addr) (li ci : Nat) (z : World) : ∀ j v w w', hwV m i N bl ol cl b off cap RO RN X ai li ci z j v w → Mk z.heap.size w w' → hwV m i N bl ol cl b off cap RO RN X ai li ci z j v w'
  | 0, _, _, _, h, _ | 1, _, _, _, h, _ | 2, _, _, _, h, _ | 3, _, _, _, h, _ | 4, _, _, _, h, _ | 5, _, _, _, h, _ | 6, _, _, _, h, _ | 7, _, _, _, h, _ | 8, _, _, _, h, _ | 9, _, _, _, h, _ | 10, _, _, _, h, _ | 11, _, _, _, h, _ | 12, _, _, _, h, _ | 13, _, _, _, h, _ | 14, _, _, _, h, _ | 15, _, _, _, h, _ | 16, _, _, _, h, _ | 17, _, _, _, h, _ | 18, _, _, _, h, _ => h
  | 19, _, _, _, ⟨g, e, h, hz⟩, hb => ⟨g, e, hb.blk _ _ _ (by decide) h, hz⟩
  | _ + 20, _, _, _, _, _ => trivial
def hwL : List Nat := [50, 51, 52, 53, 54, 55, 56, 57, 58, 59, 60, 61, 62, 63, 64, 65, 66, 67, 68, 11]
def hwS (i : Nat) : Nat := [50, 51, 52, 53, 54, 55, 56, 57, 58, 59, 60, 61, 62, 63, 64, 65, 66, 67, 68, 11].getD i 0
set_option maxRecDepth 100000 in
set_option maxHeartbeats 2000000 in
theorem hon_walk (a0 : Option Addr) (len cap : Nat) (ps : List (List Int)) (av bv : Int) (w : World) (hp : Sls w a0 len cap ps) (ha : (Lit.int .i64 av).wf = true) (hb : (Lit.int .i64 bv).wf = true) (hk : KT w) :
    Calls Tryd.prog 6 #[.slice a0 len cap, .int .i64 av, .int .i64 bv] w fun r w' => r = .returned (.bool true) ∧ Below w.heap.size w w' := by
  have HP := hide hp
  have HK := hide hk
  have HPL := hide hp.hlen
  have hmx := hp.hmax
  clear hp hk
  by_cases h0 : len = 0
  · subst h0
    go_enter Tryd.func6, Tryd.ntmps6
    go_wp2
    go_ret
    exact ⟨rfl, Below.refl _ _⟩
  obtain ⟨b, off, ea⟩ : ∃ b off, a0 = some ⟨b, off, none⟩ := by
    obtain ⟨b, off, _, _, _, e, _⟩ := HP.out.hcell 0 (by omega)
    exact ⟨b, off, e⟩
  subst ea
  obtain ⟨jm, hjm, hM⟩ := into9 av len (by omega) (by omega)
  obtain ⟨m, em⟩ : ∃ m : Nat, m = jm + 1 := ⟨_, rfl⟩
  obtain ⟨i, hi, hI⟩ := into9 bv m (by omega) (by omega)
  have HM := hide hM
  have HJ := hide hI
  have h0' : ¬ ((len : Int) = 0) := by omega
  have hm0 : ¬ ((m : Int) = 0) := by omega
  clear hM hI ha hb
  go_enter Tryd.func6, Tryd.ntmps6
  go_wp2
  rw [show ((len : Int) == 0) = false by simp [h0]]
  have H0 := hide h0'
  have HPOS := hide (show 0 < len by omega)
  have HJM := hide hjm
  clear h0' h0 hjm
  go_loopw [7, 8] (fun al i wr => ∃ j : Nat, j ≤ len ∧ i = .int .i64 (j : Int) ∧ DOwn wr w.heap.size al j (lfs (ps.take j)) ∧ Below w.heap.size w wr) (fun _ i _ => len - (intOf i).toNat)
  case atStart => exact ⟨0, by omega, rfl, DOwn.nil _ _, Below.refl _ _⟩
  case round =>
    obtain ⟨j, hj, rfl, ho, hb⟩ := hrel
    have B := hide hb
    have O := hide ho
    clear hb ho
    by_cases hlt : j < len
    · have hlt' : (j : Int) < (len : Int) := by omega
      obtain ⟨b2, off2, ai, li, ci, e2, hc, hsl, hli⟩ := (HP.out.below B.out).hcell j hlt
      cases e2
      have SL := hide hsl
      obtain ⟨dj, HDJ⟩ : ∃ d, Hid (d = lf (ps.getD j [])) := ⟨_, hide rfl⟩
      have LS : Hid (lfs (ps.take j) ++ dj = lfs (ps.take (j + 1))) := hide (by rw [HDJ.out]; exact lfs_succ ps j (by rw [HPL.out]; exact hlt))
      have DL : Hid (dj.length = 32) := hide (by rw [HDJ.out]; exact lf_length _)
      have DB : Hid (isB dj) := hide (by rw [HDJ.out]; exact lf_isB _)
      clear hsl
      go_wp2_with (go_at_call 15; refine (leaf_any _ _ _ (ps.getD j []) _ SL.out (by omega) (HK.out.below B.out HK.out.lt)).mono ?_)
      rintro r w2 ⟨rfl, hb2⟩
      rw [← HDJ.out]
      have B2 := hide (B.out.trans (hb2.mono B.out.size))
      have O2 := hide (O.out.below hb2)
      clear hb2 B O SL hc
      go_wp2_with (refine step_1D rfl rfl DL.out DB.out ?_)
      intro w3 g3 hd3 hb3
      have B3 := hide (B2.out.trans (hb3.mono B2.out.size))
      have O3 := hide (O2.out.below hb3)
      have D3 := hide hd3
      clear hd3 hb3 B2 O2
      go_wp2_with (refine step_appendD rfl rfl rfl O3.out D3.out (by omega) B3.out.size ?_)
      intro v4 w4 ho4 hg4
      rw [LS.out] at ho4
      have B4 := hide (B3.out.trans (Below.of_grown hg4 B3.out.size O3.out.lt))
      have O4 := hide ho4
      clear ho4 hg4
      go_wp2
      go_roundw
      case rel =>
        exact ⟨j + 1, by omega, by go_num, O4.out, B4.out⟩
      case measure => simp [intOf]; omega
    · have hlt' : ¬ ((j : Int) < (len : Int)) := by omega
      obtain rfl : j = len := by omega
      rw [List.take_of_length_le (by rw [HPL.out]; exact Nat.le_refl _)] at O
      obtain ⟨al, cl, rfl, hds, hal⟩ := O.out.ds (lfs_isB ps) (by omega)
      obtain ⟨bl, ol, eal⟩ := hds.place HPOS.out
      subst eal
      have DS := hide hds
      have hcl := hds.hcap
      have h0' := H0.out
      have hjm := HJM.out
      have eM : 1 + (jm : Int) = (m : Int) := by omega
      have HMJ : Hid (m ≤ j) := hide (by omega)
      clear em
      have hM := HM.out
      have hI := HJ.out
      clear hds O
      go_wp2
      clear h0' hM hI eM hm0
      have him : i < m := hi
      have hmj := HMJ.out
      have LD := hide (lfs_length ps)
      rw [HPL.out] at LD
      obtain ⟨D, HD⟩ : ∃ D, Hid (D = lfs ps) := ⟨_, hide rfl⟩
      rw [← HD.out] at DS LD
      have DBB : Hid (isB D) := hide (by rw [HD.out]; exact lfs_isB ps)
      obtain ⟨b2, off2, ai, li, ci, e2, hc0, hsl0, hli⟩ := (HP.out.below B.out).hcell i (by omega)
      cases e2
      obtain ⟨X, HX⟩ : ∃ X, Hid (X = ps.getD i []) := ⟨_, hide rfl⟩
      rw [← HX.out] at hsl0
      have SX := hide hsl0
      have C0 := hide hc0
      have LFX : Hid (lf X = dat D i) := hide (by rw [HX.out, HD.out]; exact lfs_dat ps i (by rw [HPL.out]; omega))
      obtain ⟨RO, HRO⟩ : ∃ R, Hid (R = root (sub D 0 m)) := ⟨_, hide rfl⟩
      obtain ⟨RN, HRN⟩ : ∃ R, Hid (R = root (sub D 0 j)) := ⟨_, hide rfl⟩
      have LRO : Hid (RO.length = 32) := hide (by rw [HRO.out]; exact root_length (sub_length LD.out (Nat.zero_le m) hmj) (sub_isB DBB.out _ _))
      have BRO : Hid (isB RO) := hide (by rw [HRO.out]; exact root_isB (sub_length LD.out (Nat.zero_le m) hmj) (sub_isB DBB.out _ _))
      have LRN : Hid (RN.length = 32) := hide (by rw [HRN.out]; exact root_length (sub_length LD.out (Nat.zero_le j) (Nat.le_refl j)) (sub_isB DBB.out _ _))
      have BRN : Hid (isB RN) := hide (by rw [HRN.out]; exact root_isB (sub_length LD.out (Nat.zero_le j) (Nat.le_refl j)) (sub_isB DBB.out _ _))
      have KR := hide (HK.out.below B.out HK.out.lt)
      clear hc0 hsl0 hi hlt hj
      refine wp_region_noPanic ?_
      refine wp_region_inv (n := 20) (slot := hwS) (slots := hwL) (Val := hwV m i j bl ol cl b off cap RO RN X ai li ci wr) (z := wr) (R := Mk wr.heap.size) (by kernel_rfl) (Mk.of ((Below.refl _ _).drew) (Nat.le_refl _)) (by kernel_rfl) (fun _ _ _ h k => h.trans k) (hwV_mono m i j bl ol cl b off cap RO RN X ai li ci wr) (by kernel_rfl) (by kernel_rfl) (by kernel_rfl) (by kernel_rfl) ?_ ?_ rfl
      · intro k hk a v hF hB hV
        have q0 : a.eval (.tmp 0) = .slice (some ⟨b, off, none⟩) j cap := hF.at 0 (by kernel_rfl)
        have q7 : a.eval (.tmp 7) = .slice (some ⟨bl, ol, none⟩) j cl := hF.at 7 (by kernel_rfl)
        have q9 : a.eval (.tmp 9) = .int .i64 (m : Int) := hF.at 9 (by kernel_rfl)
        have q10 : a.eval (.tmp 10) = .int .i64 (i : Int) := hF.at 10 (by kernel_rfl)
        have hz : wr.heap.size ≤ v.heap.size := hB.size
        match k, hk with
        | 0, _ => exact wpOp_of rfl rfl (wp_mv q9 ⟨_, rfl, rfl, Mk.refl _ _⟩)
        | 1, _ => exact wpOp_of rfl rfl (wp_mv q7 ⟨_, rfl, rfl, Mk.refl _ _⟩)
        | 2, _ => exact wpOp_of rfl rfl (wp_lenD (hV 1 (by omega) (by kernel_rfl)) ⟨_, rfl, rfl, Mk.refl _ _⟩)
        | 3, _ => exact wpOp_of rfl rfl (wp_mv q7 ⟨_, rfl, rfl, Mk.refl _ _⟩)
        | 4, _ => exact wpOp_of rfl rfl (wp_mv q9 ⟨_, rfl, rfl, Mk.refl _ _⟩)
        | 5, _ => exact wpOp_of rfl rfl (wp_toD (hV 3 (by omega) (by kernel_rfl)) (hV 4 (by omega) (by kernel_rfl)) (by omega) ⟨_, rfl, rfl, Mk.refl _ _⟩)
        | 6, _ =>
          have v1 : a.eval (.tmp 55) = .slice (some ⟨bl, ol, none⟩) m cl := hV 5 (by omega) (by kernel_rfl)
          obtain ⟨v2, v3⟩ := tmp_forms v1
          refine wpOp_of rfl rfl ?_
          go_simp
          refine (root_any m _ m cl (D.take (32 * m)) _ (Nat.le_refl _) ((DS.out.take m hmj).mk' hB) (KR.out.below hB.low KR.out.lt)).mono ?_
          rintro r w2 ⟨rfl, hb2⟩
          rw [show D.take (32 * m) = sub D 0 m by simp [sub], ← HRO.out]
          exact ⟨_, rfl, rfl, Mk.of hb2 hz⟩
        | 7, _ => exact wpOp_of rfl rfl (wp_mv q7 ⟨_, rfl, rfl, Mk.refl _ _⟩)
        | 8, _ =>
          have v1 : a.eval (.tmp 57) = .slice (some ⟨bl, ol, none⟩) j cl := hV 7 (by omega) (by kernel_rfl)
          obtain ⟨v2, v3⟩ := tmp_forms v1
          refine wpOp_of rfl rfl ?_
          go_simp
          refine (root_any j _ j cl D _ (Nat.le_refl _) (DS.out.mk' hB) (KR.out.below hB.low KR.out.lt)).mono ?_
          rintro r w2 ⟨rfl, hb2⟩
          rw [show root D = RN by rw [HRN.out, sub_all LD.out]]
          exact ⟨_, rfl, rfl, Mk.of hb2 hz⟩
        | 9, _ => exact wpOp_of rfl rfl (wp_mv q10 ⟨_, rfl, rfl, Mk.refl _ _⟩)
        | 10, _ => exact wpOp_of rfl rfl (wp_mv q0 ⟨_, rfl, rfl, Mk.refl _ _⟩)
        | 11, _ => exact wpOp_of rfl rfl (wp_mv q10 ⟨_, rfl, rfl, Mk.refl _ _⟩)
        | 12, _ => exact wpOp_of rfl rfl (wp_ixL (hV 10 (by omega) (by kernel_rfl)) (hV 11 (by omega) (by kernel_rfl)) (by omega) ⟨_, rfl, rfl, Mk.refl _ _⟩)
        | 13, _ => exact wpOp_of rfl rfl (wp_ldB (hV 12 (by omega) (by kernel_rfl)) (hB.cell _ _ C0.out) ⟨_, rfl, rfl, Mk.refl _ _⟩)
        | 14, _ => exact wpOp_of rfl rfl (wp_mv q0 ⟨_, rfl, rfl, Mk.refl _ _⟩)
        | 15, _ => exact wpOp_of rfl rfl (wp_mv q10 ⟨_, rfl, rfl, Mk.refl _ _⟩)
        | 16, _ => exact wpOp_of rfl rfl (wp_ixL (hV 14 (by omega) (by kernel_rfl)) (hV 15 (by omega) (by kernel_rfl)) (by omega) ⟨_, rfl, rfl, Mk.refl _ _⟩)
        | 17, _ => exact wpOp_of rfl rfl (wp_ldB (hV 16 (by omega) (by kernel_rfl)) (hB.cell _ _ C0.out) ⟨_, rfl, rfl, Mk.refl _ _⟩)
        | 18, _ => exact wpOp_of rfl rfl (wp_bare X LRO.out LRN.out (hV 0 (by omega) (by kernel_rfl)) (hV 2 (by omega) (by kernel_rfl)) (hV 6 (by omega) (by kernel_rfl)) (hV 8 (by omega) (by kernel_rfl)) (hV 9 (by omega) (by kernel_rfl)) (hV 13 (by omega) (by kernel_rfl)) (hV 17 (by omega) (by kernel_rfl)) ⟨_, rfl, rfl, Mk.refl _ _⟩)
        | 19, _ => exact wpOp_of rfl rfl (wp_allocC fun w1 g hg hl hb => ⟨_, rfl, ⟨g, rfl, hg, Nat.le_trans hz hl⟩, Mk.of hb hz⟩)
        | _ + 20, h => exact absurd h (by omega)
      intro a v hF hB hV
      have e68 : a.eval (.tmp 68) = .agg (Cv.bare m j RO RN i ai li ci X).cells.toArray := hV 18 (by omega)
      obtain ⟨g3, e11, hg3, hl3⟩ := hV 19 (by omega)
      have q0 : a.eval (.tmp 0) = .slice (some ⟨b, off, none⟩) j cap := hF.at 0 (by kernel_rfl)
      have q7 : a.eval (.tmp 7) = .slice (some ⟨bl, ol, none⟩) j cl := hF.at 7 (by kernel_rfl)
      have q9 : a.eval (.tmp 9) = .int .i64 (m : Int) := hF.at 9 (by kernel_rfl)
      have q10 : a.eval (.tmp 10) = .int .i64 (i : Int) := hF.at 10 (by kernel_rfl)
      have LM : Hid ((Cv.bare m j RO RN i ai li ci X).cells.length = 72) := hide (Cv.length LRO.out LRN.out)
      refine wpOp_of rfl rfl (wp_storeG9 wCl e11 e68 hg3 LM.out (Cv.one _) (by kernel_rfl) ?_)
      intro y hy hbt
      refine NoPanic.normal ?_
      have GY := hide hy
      have YB := hide (hB.low.trans (hbt.below hl3))
      obtain ⟨⟨M⟩, df⟩ := a
      have hM : M.length = 119 := hF.size
      have hdf : df = [] := hF.defers
      subst hdf
      obtain ⟨f, hf, eL⟩ := listF119 M hM
      have ex0 : f 0 = .slice (some ⟨b, off, none⟩) j cap := (hf 0).trans q0
      have ex7 : f 7 = .slice (some ⟨bl, ol, none⟩) j cl := (hf 7).trans q7
      have ex9 : f 9 = .int .i64 (m : Int) := (hf 9).trans q9
      have ex10 : f 10 = .int .i64 (i : Int) := (hf 10).trans q10
      have ex11 : f 11 = .pointer (some ⟨g3, 0, none⟩) := (hf 11).trans e11
      clear hf hF hV e68 e11 q0 q7 q9 q10 hB
      subst eL
      rw [ex0, ex7, ex9, ex10, ex11]
      clear hM ex0 ex7 ex9 ex10 ex11 hg3 hbt hy
      have hgy : g3 < y.heap.size := GY.out.lt
      obtain ⟨s1, p1, p2⟩ := hon_len LD.out DBB.out (by omega) (show 1 ≤ m by omega) hmj him
      have CE := hide (show coE j (m : Int) (j : Int) = 0 by unfold coE; rw [if_neg (by omega)])
      have CP := hide (show coP D j (m : Int) (j : Int) = steps (sub D 0 j) m true by unfold coP; rw [if_neg (by omega)]; simp)
      have E1 := hide (show inE j (i : Int) (m : Int) = 0 by unfold inE; rw [if_neg (by omega)])
      have P1 := hide (show inP D j (i : Int) (m : Int) = path (sub D 0 m) i by unfold inP; rw [if_neg (by omega)]; simp)
      have E2 := hide (show inE j (i : Int) (j : Int) = 0 by unfold inE; rw [if_neg (by omega)])
      have P2 := hide (show inP D j (i : Int) (j : Int) = path (sub D 0 j) i by unfold inP; rw [if_neg (by omega)]; simp)
      have SB : Hid (isB (steps (sub D 0 j) m true)) := hide (by rw [← CP.out]; exact (coP_bd _ _ LD.out DBB.out (by omega)).2)
      have PB1 : Hid (isB (path (sub D 0 m) i)) := hide (by rw [← P1.out]; exact (inP_bd _ _ LD.out DBB.out (by omega)).2)
      have PB2 : Hid (isB (path (sub D 0 j) i)) := hide (by rw [← P2.out]; exact (inP_bd _ _ LD.out DBB.out (by omega)).2)
      have hLf1 := hvL_few (Nat.zero_le i) (show i < 0 + m by omega) (by omega)
      have hLf2 := hvL_few (Nat.zero_le i) (show i < 0 + j by omega) (by omega)
      have hMf := hvM_few (show 1 ≤ m by omega) (show 0 < m by omega) (show m ≤ 0 + j by omega) (by omega)
      have hTf := ptM_le m 0 j
      have HACC : Hid (∀ c : Cv, c.m = (m : Int) → c.n = (j : Int) → c.i = (i : Int) → c.o = RO → c.nw = RN → c.ls = (hvM m 0 j).length + ptM m 0 j → c.S = steps (sub D 0 j) m true → c.X = X → c.Y = X → c.lo = (hvL i 0 m).length → c.O = path (sub D 0 m) i → c.ln = (hvL i 0 j).length → c.N = path (sub D 0 j) i → c.acc = true) := hide (fun c e1 e2 e3 e4 e5 e6 e7 e8 e9 e10 e11 e12 e13 => hon_acc LD.out DBB.out (by omega) (by omega) hmj him LFX.out c e1 e2 e3 (by rw [e4, HRO.out]) (by rw [e5, HRN.out]) e6 e7 e8 e9 e10 e11 e12 e13)
      generalize steps (sub D 0 j) m true = SS at *
      generalize path (sub D 0 m) i = PO at *
      generalize path (sub D 0 j) i = PN at *
      generalize (hvL i 0 m).length = Lo at *
      generalize (hvL i 0 j).length = Ln at *
      generalize hLs : (hvM m 0 j).length + ptM m 0 j = Ls at *
      have hLs2 : Ls ≤ 200 := by omega
      have hLo2 : Lo ≤ 200 := by omega
      have hLn2 : Ln ≤ 200 := by omega
      have S1 := hide s1
      have Q1 := hide p1
      have Q2 := hide p2
      clear hLs hMf hTf hLf1 hLf2 s1 p1 p2
      go_wp2_with fail
      refine (cons_any _ _ _ D (m : Int) (j : Int) _ (DS.out.below YB.out) (KR.out.below YB.out KR.out.lt)).mono ?_
      rintro r w3 ⟨v3, rfl, ⟨q3, ho3⟩, hb3⟩
      rw [CE.out]
      rw [CP.out] at ho3
      obtain rfl : q3 = Ls := by have := ho3.len; have := S1.out; omega
      obtain ⟨aq, cq, rfl, haq, hbq⟩ := ho3.ds SB.out (by omega)
      have DQ3 := hide haq
      have AQ : Hid (Apart g3 aq) := hide (fun x hx => by have := hbq x hx; show x.block ≠ g3; omega)
      have Z3 := hide (YB.out.trans (hb3.mono YB.out.size))
      have GY3 := hide (GY.out.on hb3)
      have EC1 : Hid ((Cv.bare m j RO RN i ai li ci X).cells.set 66 (.slice aq q3 cq) = (Cv.mk m j RO RN i aq q3 cq SS ai li ci X ai li ci X none 0 0 [] none 0 0 []).cells) := hide (Cv.setTail (Cv.bare m j RO RN i ai li ci X) LRO.out LRN.out 0 _)
      have hl66 : 66 < (Cv.bare m j RO RN i ai li ci X).cells.length := by rw [LM.out]; omega
      clear ho3 haq hbq hb3
      go_wp2_with (refine step_stD rfl rfl rfl GY3.out hl66 ?_)
      intro w4 hr4 hbt4
      rw [EC1.out] at hr4
      have G4 := hide hr4
      have DQ4 := hide (DQ3.out.butQ hbt4 (fun _ => AQ.out))
      have Z4 := hide (Z3.out.trans (hbt4.below hl3))
      have hg4 : g3 < w4.heap.size := hr4.lt
      have LM1 : Hid ((Cv.mk m j RO RN i aq q3 cq SS ai li ci X ai li ci X none 0 0 [] none 0 0 []).cells.length = 72) := hide (Cv.length LRO.out LRN.out)
      clear hr4 hbt4 DQ3 Z3 GY3 EC1 hl66
      go_wp2_with fail
      refine (incl_any _ _ _ D (i : Int) (m : Int) _ (DS.out.below Z4.out) (KR.out.below Z4.out KR.out.lt)).mono ?_
      rintro r w5 ⟨v5, rfl, ⟨q5, ho5⟩, hb5⟩
      rw [E1.out]
      rw [P1.out] at ho5
      obtain rfl : q5 = Lo := by have := ho5.len; have := Q1.out; omega
      obtain ⟨ao, co, rfl, hao, hbo⟩ := ho5.ds PB1.out (by omega)
      have DO5 := hide hao
      have AO : Hid (Apart g3 ao) := hide (fun x hx => by have := hbo x hx; show x.block ≠ g3; omega)
      have Z5 := hide (Z4.out.trans (hb5.mono Z4.out.size))
      have G5 := hide (G4.out.on hb5)
      have DQ5 := hide (DQ4.out.below hb5)
      have EC2 : Hid ((Cv.mk m j RO RN i aq q3 cq SS ai li ci X ai li ci X none 0 0 [] none 0 0 []).cells.set 70 (.slice ao q5 co) = (Cv.mk m j RO RN i aq q3 cq SS ai li ci X ai li ci X ao q5 co PO none 0 0 []).cells) := hide (Cv.setTail (Cv.mk m j RO RN i aq q3 cq SS ai li ci X ai li ci X none 0 0 [] none 0 0 []) LRO.out LRN.out 4 _)
      have hl70 : 70 < (Cv.mk m j RO RN i aq q3 cq SS ai li ci X ai li ci X none 0 0 [] none 0 0 []).cells.length := by rw [LM1.out]; omega
      clear ho5 hao hbo hb5 DQ4 G4
      go_wp2_with (refine step_stD rfl rfl rfl G5.out hl70 ?_)
      intro w6 hr6 hbt6
      rw [EC2.out] at hr6
      have G6 := hide hr6
      have DQ6 := hide (DQ5.out.butQ hbt6 (fun _ => AQ.out))
      have DO6 := hide (DO5.out.butQ hbt6 (fun _ => AO.out))
      have Z6 := hide (Z5.out.trans (hbt6.below hl3))
      have hg6 : g3 < w6.heap.size := hr6.lt
      have LM2 : Hid ((Cv.mk m j RO RN i aq q3 cq SS ai li ci X ai li ci X ao q5 co PO none 0 0 []).cells.length = 72) := hide (Cv.length LRO.out LRN.out)
      clear hr6 hbt6 DQ5 DO5 Z5 G5 EC2 hl70
      go_wp2_with fail
      refine (incl_any _ _ _ D (i : Int) (j : Int) _ (DS.out.below Z6.out) (KR.out.below Z6.out KR.out.lt)).mono ?_
      rintro r w7 ⟨v7, rfl, ⟨q7, ho7⟩, hb7⟩
      rw [E2.out]
      rw [P2.out] at ho7
      obtain rfl : q7 = Ln := by have := ho7.len; have := Q2.out; omega
      obtain ⟨an, cn, rfl, han, hbn⟩ := ho7.ds PB2.out (by omega)
      have AN : Hid (Apart g3 an) := hide (fun x hx => by have := hbn x hx; show x.block ≠ g3; omega)
      have DN7 := hide han
      have Z7 := hide (Z6.out.trans (hb7.mono Z6.out.size))
      have G7 := hide (G6.out.on hb7)
      have DQ7 := hide (DQ6.out.below hb7)
      have DO7 := hide (DO6.out.below hb7)
      have EC3 : Hid ((Cv.mk m j RO RN i aq q3 cq SS ai li ci X ai li ci X ao q5 co PO none 0 0 []).cells.set 71 (.slice an q7 cn) = (Cv.mk m j RO RN i aq q3 cq SS ai li ci X ai li ci X ao q5 co PO an q7 cn PN).cells) := hide (Cv.setTail (Cv.mk m j RO RN i aq q3 cq SS ai li ci X ai li ci X ao q5 co PO none 0 0 []) LRO.out LRN.out 5 _)
      have hl71 : 71 < (Cv.mk m j RO RN i aq q3 cq SS ai li ci X ai li ci X ao q5 co PO none 0 0 []).cells.length := by rw [LM2.out]; omega
      clear ho7 han hbn hb7 DQ6 DO6 G6
      go_wp2_with (refine step_stD rfl rfl rfl G7.out hl71 ?_)
      intro w8 hr8 hbt8
      rw [EC3.out] at hr8
      have G8 := hide hr8
      have Z8 := hide (Z7.out.trans (hbt8.below hl3))
      have DN8 := hide (DN7.out.butQ hbt8 (fun _ => AN.out))
      have DQ8 := hide (DQ7.out.butQ hbt8 (fun _ => AQ.out))
      have DO8 := hide (DO7.out.butQ hbt8 (fun _ => AO.out))
      have S8 := hide (SX.out.below Z8.out)
      obtain ⟨c, HC⟩ : ∃ c : Cv, Hid (c = Cv.mk m j RO RN i aq q3 cq SS ai li ci X ai li ci X ao q5 co PO an q7 cn PN) := ⟨_, hide rfl⟩
      have IC : Hid (c.In w8) := hide (by rw [HC.out]; exact ⟨LRO.out, BRO.out, LRN.out, BRN.out, DQ8.out, S8.out, (by show li ≤ 140737488354304; omega), S8.out, (by show li ≤ 140737488354304; omega), DO8.out, DN8.out⟩)
      have HAC : Hid (c.acc = true) := hide (by rw [HC.out]; exact HACC.out _ rfl rfl rfl rfl rfl rfl rfl rfl rfl rfl rfl rfl rfl)
      have HXY : Hid (c.X = c.Y) := hide (by rw [HC.out])
      have LC : Hid (c.cells.length = 72) := hide (Cv.length IC.out.lo IC.out.ln)
      have HFD : Hid ((c.acc && decide (c.X ≠ c.Y)) = false) := hide (by simp [HXY.out])
      rw [← HC.out] at G8
      have K8 := hide (KR.out.below Z8.out KR.out.lt)
      have B8 := hide (B.out.trans (Z8.out.mono B.out.size))
      clear hr8 hbt8 DN7 DQ7 DO7 Z7 G7 EC3 hl71 DN8 DQ8 DO8 S8 HC HACC
      go_wp2_with (first | (refine step_load wCl rfl rfl G8.out _ LC.out (by rw [List.drop_zero, List.take_of_length_le (by rw [LC.out]; omega)]) ?_) | (go_at_call 9; refine (lent9_any c _ IC.out).mono ?_))
      rintro r v1 ⟨aq1, cs1, ax1, cx1, ay1, cy1, ao1, co1, an1, cn1, rfl, hin, hv1⟩
      have I1 := hide hin
      have Y1 := hide hv1
      have K1 := hide (K8.out.below Y1.out K8.out.lt)
      clear hin hv1
      go_wp2_with (go_at_call 11; refine (ext_any _ _ I1.out K1.out).mono ?_)
      rintro r v2 ⟨av', bv', rfl, hE2, hv2⟩
      rw [show (c.moved aq1 cs1 ax1 cx1 ay1 cy1 ao1 co1 an1 cn1).acc = c.acc from rfl, show (c.moved aq1 cs1 ax1 cx1 ay1 cy1 ao1 co1 an1 cn1).X = c.X from rfl, show (c.moved aq1 cs1 ax1 cx1 ay1 cy1 ao1 co1 an1 cn1).Y = c.Y from rfl, HFD.out] at hE2 ⊢
      obtain ⟨ev1, ev2⟩ := hE2.no rfl
      subst ev1 ev2
      have Y2 := hide (Y1.out.trans (hv2.mono Y1.out.size))
      have G9 := hide (G8.out.on Y2.out)
      have I2 := hide (IC.out.below Y2.out)
      clear hE2 hv2 I1 K1 Y1
      go_wp2_with (first | (refine step_load wCl rfl rfl G9.out _ LC.out (by rw [List.drop_zero, List.take_of_length_le (by rw [LC.out]; omega)]) ?_) | (go_at_call 9; refine (lent9_any c _ I2.out).mono ?_))
      rintro r v4 ⟨aq2, cs2, ax2, cx2, ay2, cy2, ao2, co2, an2, cn2, rfl, hin, hv4⟩
      have I4 := hide hin
      have Y4 := hide (Y2.out.trans (hv4.mono Y2.out.size))
      have K4 := hide (K8.out.below Y4.out K8.out.lt)
      clear hin hv4 I2 G9 Y2
      go_wp2_with (go_at_call 8; refine (accepted_any _ _ I4.out K4.out).mono ?_)
      rintro r v5 ⟨rfl, hv5⟩
      rw [show (c.moved aq2 cs2 ax2 cx2 ay2 cy2 ao2 co2 an2 cn2).acc = c.acc from rfl, HAC.out]
      have Y5 := hide (Y4.out.trans (hv5.mono Y4.out.size))
      clear hv5 I4 K4
      go_wp2
      go_ret
      exact ⟨rfl, B8.out.trans (Y5.out.mono B8.out.size)⟩

end Go.Proofs.YtconeobaohmbnaaDoor
