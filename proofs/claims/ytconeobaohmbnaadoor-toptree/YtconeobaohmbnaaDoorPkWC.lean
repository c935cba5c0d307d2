/-
  Texts one behind the other: Qq Qr Qt Qu Oz Qh Qw EaLaw EtLaw Ob Od Rn Wn Wg Wp Wq Wk Wx Wc Wf.
-/
import Derived.Test.YtconeobaohmbnaaDoorPkWB
import Derived.Lib.SlBytesConst
import Derived.Test.YtconeobaohmbnaaDoorNm
import Derived.Test.YtconeobaohmbnaaDoorSc
import Derived.Test.YtconeobaohmbnaaDoorTd
import Derived.Deep.RegionLaw
import Derived.Test.YtconeobaohmbnaaDoorRf
import Derived.Test.YtconeobaohmbnaaDoorVt
import Derived.Test.YtconeobaohmbnaaDoorVf
import Derived.Test.YtconeobaohmbnaaDoorEn
import Derived.Laws.MakeOwn
import Derived.Defers
import Derived.Recover
import Derived.Test.YtconeobaohmbnaaDoorPkWA

/-
  rehashConsistency: the closure, and the function itself.
-/
namespace Go.Proofs.YtconeobaohmbnaaDoor
open Go.RowKit
set_option linter.unusedVariables false


theorem wrap_is {x : Int} {n : Nat} (h : x = (n : Int)) (h0 : 0 ≤ x) (h1 : x ≤ 9223372036854775807) : wrap64 x = (n : Int) := by
  rw [← h]; unfold wrap64; omega
set_option maxRecDepth 100000 in
set_option maxHeartbeats 1000000 in
theorem ron_any (gm gf gr gs g mb m : Nat) (first : List Int) (hfl : first.length = 32) (hfb : isB first) : ∀ (f b e : Nat) (a : Option Addr) (l cap : Nat) (xs : List Int) (L : List (List Int)) (w : World), e - b ≤ f → b < m → m ≤ e → e ≤ 281474976710656 → l = (hvM m b (e - b)).length + ptM m b (e - b) → Ds w a l cap xs →
    EO w gm gf gr gs g m first → Bk w g mb L →
    Calls Tryd.prog 54 #[.agg (spn b e).toArray, .slice a l cap, .pointer (some ⟨gm, 0, none⟩), .pointer (some ⟨gf, 0, none⟩), .pointer (some ⟨gr, 0, none⟩), .pointer (some ⟨gs, 0, none⟩)] w
      fun r w' => r = .returned (.tuple #[.agg (u8s (fo (hvM m b (e - b)) (xs.drop (32 * ptM m b (e - b))) (st0 (ptM m b (e - b)) first xs) (hvM m b (e - b)).length)).toArray, .agg (u8s (fu (hvM m b (e - b)) (xs.drop (32 * ptM m b (e - b))) (st0 (ptM m b (e - b)) first xs) (hvM m b (e - b)).length)).toArray]) ∧
        Bk w' g mb (L ++ so (hvM m b (e - b)) (xs.drop (32 * ptM m b (e - b))) (st0 (ptM m b (e - b)) first xs) (hvM m b (e - b)).length) ∧ Bel g mb w w' := by
  intro f
  induction f with
  | zero => intro b e a l cap xs L w h1 h2 h3; omega
  | succ f ih =>
    intro b e a l cap xs L w hfu hb hme he hl hs hE hB
    by_cases hem : e = m
    · obtain ⟨e1, e2⟩ := hvM_end (m := m) (b := b) (n := e - b) (by omega)
      rw [e1, e2] at hl ⊢
      by_cases hb0 : b = 0
      · rw [if_pos hb0] at hl ⊢
        simp only [so, fo, fu, List.length_nil, List.append_nil, st0, if_true]
        exact ron_zero gm gf gr gs g mb m b e hb0 hem first hfl _ L w hE hB
      · rw [if_neg hb0] at hl ⊢
        simp only [List.length_nil, Nat.zero_add] at hl
        subst hl
        obtain ⟨bb, oo, rfl⟩ := hs.place (by omega)
        simp only [so, fo, fu, List.length_nil, List.append_nil, st0]
        exact ron_part gm gf gr gs g mb m b e (by omega) hem first bb oo cap xs L w hs hE hB
    · obtain ⟨n, hn⟩ : ∃ n, n = e - b := ⟨_, rfl⟩
      rw [← hn] at hl ⊢
      have hen : e = b + n := by omega
      have h2 : 2 ≤ n := by omega
      have hn48 : n ≤ 281474976710656 := by omega
      obtain ⟨k, hk, hh⟩ : ∃ k, k = hf n ∧ 1 ≤ k ∧ k < n ∧ n ≤ 2 * k := ⟨_, rfl, hf_bd n h2 (by omega)⟩
      obtain ⟨mid, hmid⟩ : ∃ mid, mid = b + k := ⟨_, rfl⟩
      have hemi : ¬ ((e : Int) = (m : Int)) := by omega
      have hn63 : n ≤ 9223372036854775807 := by omega
      have hm1 : 1 ≤ m := by omega
      have hne : b + n ≠ m := by omega
      have hmn : m ≤ b + n := by omega
      have HW1 : Hid ((e : Int) - (b : Int) = (n : Int)) := hide (by omega)
      have HW2 : Hid ((b : Int) + (k : Int) = (mid : Int)) := hide (by omega)
      have HIH := hide ih
      have HFU := hide hfu
      have HE := hide hE
      have HB := hide hB
      have HEE := hide hen
      have HKF := hide hk
      have HMID := hide hmid
      have HKB := hide hh
      by_cases hc : m - 1 < b + k
      · obtain ⟨e1, e2⟩ := hvM_lo (m := m) (b := b) (n := n) hm1 hne h2 hn48 hb (by rw [← hk]; exact hc)
        rw [← hk] at e1 e2
        clear ih hE hB hen hk hmid hn hfu
        obtain ⟨A, hA⟩ : ∃ A, A = hvM m b k := ⟨_, rfl⟩
        obtain ⟨t, ht⟩ : ∃ t, t = ptM m b k := ⟨_, rfl⟩
        obtain ⟨q, hq⟩ : ∃ q, q = A.length := ⟨_, rfl⟩
        rw [← hA] at e1
        rw [← ht] at e2
        have hlen : (A ++ [(0 : Int)]).length = q + 1 := by rw [List.length_append, hq]; rfl
        rw [e1, e2, hlen] at hl ⊢
        have hlq : l = q + t + 1 := by omega
        subst hlq
        obtain ⟨bb, oo, rfl⟩ := hs.place (by omega)
        have hxd := dat_length hs.hlen (show q + t < q + t + 1 by omega)
        have hd0 : (st0 t first xs).length = 32 := st0_length hfl hs.hlen (by omega)
        have hd1 : isB (st0 t first xs) := st0_isB hfb hs.hbyte
        obtain ⟨DO, hDO⟩ : ∃ D, D = fo A ((xs.take (32 * (q + t))).drop (32 * t)) (st0 t first xs) q := ⟨_, rfl⟩
        obtain ⟨DN, hDN⟩ : ∃ D, D = fu A ((xs.take (32 * (q + t))).drop (32 * t)) (st0 t first xs) q := ⟨_, rfl⟩
        have HDOL : Hid (DO.length = 32) := hide (by rw [hDO]; exact fo_length hd0 _)
        have HDOB : Hid (isB DO) := hide (by rw [hDO]; exact fo_isB hd1 _)
        have HDNL : Hid (DN.length = 32) := hide (by rw [hDN]; exact fu_length hd0 _)
        have HDNB : Hid (isB DN) := hide (by rw [hDN]; exact fu_isB hd1 _)
        have HXD := hide hxd
        have HXB := hide (dat_isB hs.hbyte (q + t))
        have HXL : Hid ((u8s (dat xs (q + t))).length = 32) := hide (by rw [u8s_length, hxd])
        have HOL : Hid ((u8s DO).length = 32) := hide (by rw [u8s_length, HDOL.out])
        have HNL : Hid ((u8s DN).length = 32) := hide (by rw [u8s_length, HDNL.out])
        obtain ⟨f1, f2⟩ := step_lo A xs (st0 t first xs) t
        have f3 := so_lo A xs (st0 t first xs) t
        rw [← hq, ← hDO] at f1
        rw [← hq, ← hDN] at f2
        rw [← hq, ← hDN] at f3
        rw [f1, f2, f3]
        have HF65 : Hid ((1 :: (DN ++ dat xs (q + t))).length = 65) := hide (by rw [List.length_cons, List.length_append, HDNL.out, hxd])
        have HML : Hid ((u8s (nd DN (dat xs (q + t)))).length = 32) := hide (by rw [u8s_length, nd_length])
        have HQ := hide hq
        have HAA := hide hA
        have HPT := hide ht
        have HDO := hide hDO
        have HDN := hide hDN
        have HS := hide hs
        have HNN : Hid (mid - b = k) := hide (by have := HMID.out; omega)
        have hle : (m : Int) ≤ (b : Int) + (k : Int) := by have := HMID.out; omega
        have hle2 : m ≤ mid := by have := HMID.out; omega
        clear hl e1 e2 hlen hs hxd hd0 hd1 hDO hDN hq hA ht f1 f2 f3
        go_enter Tryd.func54, Tryd.ntmps54
        go_wp2_with (refine step_box (cs := spn b e) rfl rfl ?_)
        intro w1 g6 hr1 hl1 hb1
        have B1 := hide hb1
        have G61 := hide hr1
        go_wp2_with (refine step_alloc zD rfl ?_)
        intro w2 g8 hr2 hl2 hb2
        have B2 := hide (B1.out.trans (hb2.mono B1.out.size))
        have G82 := hide hr2
        have G62 := hide (G61.out.on hb2)
        have h8 : w.heap.size ≤ g8 := Nat.le_trans B1.out.size hl2
        go_wp2_with (refine step_alloc zD rfl ?_)
        intro y g9 hr3 hl3 hb3
        have BY := hide (B2.out.trans (hb3.mono B2.out.size))
        have G9 := hide hr3
        have G8 := hide (G82.out.on hb3)
        have G6 := hide (G62.out.on hb3)
        have h9 : w.heap.size ≤ g9 := Nat.le_trans B2.out.size hl3
        have h89 : g8 ≠ g9 := by have := G82.out.lt; omega
        have EY := hide (HE.out.below BY.out)
        have KY := hide (HB.out.on BY.out)
        have HH8 := hide h8
        have HH9 := hide h9
        have H89 := hide h89
        clear hr1 hl1 hb1 hr2 hl2 hb2 hr3 hl3 hb3 B1 G61 B2 G82 G62 h8 h9 h89
        have cb : y.cell? ⟨g6, 0, none⟩ = some (.int .i64 (b : Int)) := by rw [G6.out.cell]; rfl
        have ce : y.cell? ⟨g6, 1, none⟩ = some (.int .i64 (e : Int)) := by rw [G6.out.cell]; rfl
        have cm : y.cell? ⟨gm, 0, none⟩ = some (.int .i64 (m : Int)) := by rw [EY.out.m.cell]; rfl
        have cs4 : y.cell? ⟨gr, 0, none⟩ = some (.func (.func 54) #[] #[.pointer (some ⟨gm, 0, none⟩), .pointer (some ⟨gf, 0, none⟩), .pointer (some ⟨gr, 0, none⟩), .pointer (some ⟨gs, 0, none⟩)]) := by rw [EY.out.self.cell]; rfl
        go_wp2_with (first | (go_at_call 37; rw [HW1.out]; refine (split_any n _ h2 hn63).mono ?_; rintro r w' ⟨rfl, rfl⟩; rw [← HKF.out]) | (go_at_call 55; refine (cutLast_any bb oo (q + t) cap xs _ (HS.out.below BY.out)).mono ?_))
        rintro r w2 ⟨rfl, hb2⟩
        have B2 := hide (BY.out.trans (hb2.mono BY.out.size))
        have E2 := hide (EY.out.below hb2)
        have N82 := hide (G8.out.on hb2)
        have N92 := hide (G9.out.on hb2)
        have N62 := hide (G6.out.on hb2)
        clear hb2
        go_wp2_with (refine step_alloc zD rfl ?_)
        intro w3 g14 hr3 hl3 hb3
        have B3 := hide (B2.out.trans (hb3.mono B2.out.size))
        have h14 : w.heap.size ≤ g14 := Nat.le_trans B2.out.size hl3
        have h814 : g8 ≠ g14 := by have := N82.out.lt; omega
        have h914 : g9 ≠ g14 := by have := N92.out.lt; omega
        have h614 : g6 ≠ g14 := by have := N62.out.lt; omega
        have N83 := hide (N82.out.on hb3)
        have N93 := hide (N92.out.on hb3)
        have N63 := hide (N62.out.on hb3)
        go_wp2_with (refine step_storeA wD rfl rfl rfl hr3 HXL.out (One.u8 _) (by rw [u8s_length, zer_length]) ?_)
        intro z hrz hbtz
        have GX := hide hrz
        have M8 := hide (N83.out.but hbtz h814)
        have M9 := hide (N93.out.but hbtz h914)
        have M6 := hide (N63.out.but hbtz h614)
        have BZ := hide (B3.out.trans (hbtz.below h14))
        have EZ := hide (HE.out.below BZ.out)
        have KZ := hide (HB.out.on BZ.out)
        have H814 := hide h814
        have H914 := hide h914
        have zb : z.cell? ⟨g6, 0, none⟩ = some (.int .i64 (b : Int)) := by rw [M6.out.cell]; rfl
        have ze : z.cell? ⟨g6, 1, none⟩ = some (.int .i64 (e : Int)) := by rw [M6.out.cell]; rfl
        have zm : z.cell? ⟨gm, 0, none⟩ = some (.int .i64 (m : Int)) := by rw [EZ.out.m.cell]; rfl
        have zr : z.cell? ⟨gr, 0, none⟩ = some (.func (.func 54) #[] #[.pointer (some ⟨gm, 0, none⟩), .pointer (some ⟨gf, 0, none⟩), .pointer (some ⟨gr, 0, none⟩), .pointer (some ⟨gs, 0, none⟩)]) := by rw [EZ.out.self.cell]; rfl
        clear hr3 hl3 hb3 hrz hbtz h814 h914 h614 N82 N92 N62 N83 N93 N63 E2 B2 B3 cs4 cb ce cm
        go_wp2_with fail
        rw [HW2.out]
        refine (HIH.out b mid _ (q + t) cap (xs.take (32 * (q + t))) L _ (by have := HMID.out; have := HEE.out; have := HKB.out; have := HFU.out; omega) hb hle2 (by have := HMID.out; have := HEE.out; have := HKB.out; omega) (by rw [HNN.out, ← HAA.out, ← HPT.out, HQ.out]) ((HS.out.take (q + t) (by omega)).below BZ.out) EZ.out KZ.out).mono ?_
        rintro r v1 ⟨rfl, hB1, hbel1⟩
        rw [HNN.out, ← HAA.out, ← HPT.out, ← HQ.out, st0_take, ← HDO.out, ← HDN.out]
        rw [HNN.out, ← HAA.out, ← HPT.out, ← HQ.out, st0_take] at hB1
        have E1 := hide (EZ.out.bel KZ.out hbel1)
        have X1 := hide (KZ.out.blk hbel1 GX.out (by decide))
        have P8 := hide (KZ.out.blk hbel1 M8.out (by decide))
        have P9 := hide (KZ.out.blk hbel1 M9.out (by decide))
        have BL1 := hide ((Bel.of_below (g := g) (mb := mb) BZ.out).trans hbel1)
        have K1 := hide hB1
        clear hB1 hbel1 zb ze zm zr
        go_wp2_with (refine step_storeA wD rfl rfl rfl P8.out HOL.out (One.u8 _) (by rw [u8s_length, zer_length]) ?_)
        intro v2 hr2 hbt2
        have Q8 := hide hr2
        have P92 := hide (P9.out.but hbt2 (Ne.symm H89.out))
        have X2 := hide (X1.out.but hbt2 (Ne.symm H814.out))
        have K2 := hide (K1.out.but P8.out (by decide) (by decide) hbt2)
        have BL2 := hide (BL1.out.but' (n := 0) hbt2 HH8.out)
        have n1 : gm ≠ g8 := by have := HE.out.m.lt; have := HH8.out; omega
        have n2 : gf ≠ g8 := by have := HE.out.first.lt; have := HH8.out; omega
        have n3 : gr ≠ g8 := by have := HE.out.self.lt; have := HH8.out; omega
        have n4 : gs ≠ g8 := by have := HE.out.sum.lt; have := HH8.out; omega
        have KK2 := hide (E1.out.kt.chg (Chg.of_but hbt2) (by have := HE.out.kt.lt; have := HH8.out; omega))
        have E2 : Hid (EO v2 gm gf gr gs g m first) := hide ⟨E1.out.m.but hbt2 n1, E1.out.first.but hbt2 n2, E1.out.self.but hbt2 n3, E1.out.sum.but hbt2 n4, KK2.out⟩
        clear hr2 hbt2 n1 n2 n3 n4 KK2
        go_wp2_with (refine step_storeA wD rfl rfl rfl P92.out HNL.out (One.u8 _) (by rw [u8s_length, zer_length]) ?_)
        intro y3 hr3 hbt3
        have R9 := hide hr3
        have R8 := hide (Q8.out.but hbt3 H89.out)
        have X3 := hide (X2.out.but hbt3 (Ne.symm H914.out))
        have K3 := hide (K2.out.but P92.out (by decide) (by decide) hbt3)
        have BL3 := hide (BL2.out.but' (n := 0) hbt3 HH9.out)
        have n1 : gm ≠ g9 := by have := HE.out.m.lt; have := HH9.out; omega
        have n2 : gf ≠ g9 := by have := HE.out.first.lt; have := HH9.out; omega
        have n3 : gr ≠ g9 := by have := HE.out.self.lt; have := HH9.out; omega
        have n4 : gs ≠ g9 := by have := HE.out.sum.lt; have := HH9.out; omega
        have KK3 := hide (E2.out.kt.chg (Chg.of_but hbt3) (by have := HE.out.kt.lt; have := HH9.out; omega))
        have E3 : Hid (EO y3 gm gf gr gs g m first) := hide ⟨E2.out.m.but hbt3 n1, E2.out.first.but hbt3 n2, E2.out.self.but hbt3 n3, E2.out.sum.but hbt3 n4, KK3.out⟩
        clear hr3 hbt3 n1 n2 n3 n4 KK3
        go_wp2_with fail
        refine wp_region_noPanic ?_
        have Z0 := hide ((Below.refl y3.heap.size y3).drew)
        have hu := aD.und
        have HI1 : Hid ((Tryd.prog.info? 23).map (·.size) = some (u8s DO).length) := hide (by rw [wD.size, HOL.out])
        have HI2 : Hid ((Tryd.prog.info? 23).map (·.size) = some (u8s DN).length) := hide (by rw [wD.size, HNL.out])
        have HI3 : Hid ((Tryd.prog.info? 23).map (·.size) = some (u8s (dat xs (q + t))).length) := hide (by rw [wD.size, HXL.out])
        have HSS : Hid (∀ v, EO v gm gf gr gs g m first → Blk v g14 23 (u8s (dat xs (q + t))) → Blk v g8 23 (u8s DO) → Blk v g9 23 (u8s DN) → v.rangeAt g8 0 (u8s DO) ∧ v.rangeAt g9 0 (u8s DN) ∧ v.cell? ⟨gs, 0, none⟩ = some (fsum g) ∧ v.rangeAt g14 0 (u8s (dat xs (q + t)))) := hide (fun v h1 h2 h3 h4 => ⟨h3.range 0 _ (by simp), h4.range 0 _ (by simp), by rw [h1.sum.cell]; rfl, h2.range 0 _ (by simp)⟩)
        refine wp_region_2 (q1 := 6) (q2 := 7) (S1 := fun v : World => v.rangeAt g8 0 (u8s DO)) (S2 := fun v : World => v.rangeAt g9 0 (u8s DN) ∧ v.cell? ⟨gs, 0, none⟩ = some (fsum g) ∧ v.rangeAt g14 0 (u8s (dat xs (q + t)))) (by kernel_rfl) ?_
        have hHeld := HSS.out _ (E3.out.below Z0.out) (X3.out.on Z0.out) (R8.out.on Z0.out) (R9.out.on Z0.out)
        refine take21 0 61 (.agg (u8s DO).toArray) hHeld rfl rfl (by kernel_rfl) (by kernel_rfl) (by kernel_rfl) (by kernel_rfl) (by kernel_rfl) (by kernel_rfl) (by kernel_rfl) (fun _ _ _ h => h) (yieldsIf_load_mid (by rfl) _ _ rfl g8 0 rfl _ _ (fun v hv => hv) hu rfl HI1.out) ?_
        simp only [Act.put, List.setIfInBounds_toArray, List.set_cons_zero, List.set_cons_succ]
        refine take22 1 62 (fsum g) hHeld rfl rfl (by kernel_rfl) (by kernel_rfl) (by kernel_rfl) (by kernel_rfl) (by kernel_rfl) (by kernel_rfl) (by kernel_rfl) (fun _ _ _ h => h) (Or.inl ⟨by rfl, fun w hw => by have hw' : w.cell? ⟨gs, 0, none⟩ = some (fsum g) := (fun hw => hw.2.1) hw; go_simp⟩) ?_
        simp only [Act.put, List.setIfInBounds_toArray, List.set_cons_zero, List.set_cons_succ]
        refine take22 2 63 (.agg (u8s DN).toArray) hHeld rfl rfl (by kernel_rfl) (by kernel_rfl) (by kernel_rfl) (by kernel_rfl) (by kernel_rfl) (by kernel_rfl) (by kernel_rfl) (fun _ _ _ h => h) (yieldsIf_load_mid (by rfl) _ _ rfl g9 0 rfl _ _ (fun v hv => hv.1) hu rfl HI2.out) ?_
        simp only [Act.put, List.setIfInBounds_toArray, List.set_cons_zero, List.set_cons_succ]
        refine take22 3 64 (.agg (u8s (dat xs (q + t))).toArray) hHeld rfl rfl (by kernel_rfl) (by kernel_rfl) (by kernel_rfl) (by kernel_rfl) (by kernel_rfl) (by kernel_rfl) (by kernel_rfl) (fun _ _ _ h => h) (yieldsIf_load_mid (by rfl) _ _ rfl g14 0 rfl _ _ (fun v hv => hv.2.2) hu rfl HI3.out) ?_
        simp only [Act.put, List.setIfInBounds_toArray, List.set_cons_zero, List.set_cons_succ]
        have E4 := hide (E3.out.below Z0.out)
        have X4 := hide (X3.out.on Z0.out)
        have A4 := hide (R8.out.on Z0.out)
        have C4 := hide (R9.out.on Z0.out)
        have K4 := hide (K3.out.on Z0.out)
        have BL4 := hide (BL3.out.trans (Bel.of_below Z0.out))
        refine wpAny2_ready (rs := [4]) (by kernel_rfl) (by simp) (AllReady2.cons rfl (fun K hK => ?_) AllReady2.nil)
        rw [if_pos (by rfl)]
        go_simp
        refine (pre_any DN (dat xs (q + t)) _ HDNL.out HXD.out HDNB.out HXB.out).mono ?_
        rintro r v5 ⟨vx, rfl, hn2, hv2⟩
        obtain ⟨gx, cx, rfl, _, hsx, hux⟩ := hn2.slu (isB_one HDNB.out HXB.out) (by rw [HF65.out]; omega)
        have SX := hide hsx
        have UX := hide hux
        rw [HF65.out] at SX UX ⊢
        have E5 := hide (E4.out.below hv2)
        have X5 := hide (X4.out.on hv2)
        have A5 := hide (A4.out.on hv2)
        have C5 := hide (C4.out.on hv2)
        have K5 := hide (K4.out.on hv2)
        have BL5 := hide (BL4.out.trans (Bel.of_below hv2))
        clear hn2 hv2 hsx hux
        refine hK.out _ _ ⟨fun _ => (HSS.out _ E5.out X5.out A5.out C5.out).1, fun _ => (HSS.out _ E5.out X5.out A5.out C5.out).2⟩ ?_
        have hHeld := HSS.out _ E5.out X5.out A5.out C5.out
        clear hK K
        refine wpAny2_ready (rs := [5]) (by kernel_rfl) (by simp) (AllReady2.cons rfl (fun K hK => ?_) AllReady2.nil)
        rw [if_pos (by rfl)]
        try simp only [fsum]
        go_simp
        refine (bsum_any g mb _ _ _ _ _ _ K5.out SX.out UX.out E5.out.kt).mono ?_
        rintro r v6 ⟨rfl, hB3, hbel3⟩
        rw [show dg bL 0 (1 :: (DN ++ (dat xs (q + t)))) = nd DN (dat xs (q + t)) from rfl]
        have E6 := hide (E5.out.bel K5.out hbel3)
        have X6 := hide (K5.out.blk hbel3 X5.out (by decide))
        have A6 := hide (K5.out.blk hbel3 A5.out (by decide))
        have C6 := hide (K5.out.blk hbel3 C5.out (by decide))
        have BL6 := hide (BL5.out.trans hbel3)
        have K6 := hide hB3
        clear hB3 hbel3 SX UX
        refine hK.out _ _ ⟨fun _ => (HSS.out _ E6.out X6.out A6.out C6.out).1, fun _ => (HSS.out _ E6.out X6.out A6.out C6.out).2⟩ ?_
        have hHeld := HSS.out _ E6.out X6.out A6.out C6.out
        clear hK K
        refine wpAny2_ready (rs := [6]) (by kernel_rfl) (by simp) (AllReady2.cons rfl (fun K hK => ?_) AllReady2.nil)
        rw [if_pos (by rfl)]
        refine wp_storeG9 wD rfl rfl A6.out HOL.out (One.u8 _) (by rw [u8s_length, HDOL.out]) ?_
        intro v7 hr7 hbt7
        have ng : gs ≠ g8 := by have := HE.out.sum.lt; have := HH8.out; omega
        have C7 := hide (C6.out.but hbt7 (Ne.symm H89.out))
        have K7 := hide (K6.out.but A6.out (by decide) (by decide) hbt7)
        have BL7 := hide (BL6.out.but' (n := 0) hbt7 HH8.out)
        refine hK.out _ _ ⟨fun h => absurd h (by decide), fun _ => ⟨C7.out.range 0 _ (by simp), by rw [(E6.out.sum.but hbt7 ng).cell]; rfl, (X6.out.but hbt7 (Ne.symm H814.out)).range 0 _ (by simp)⟩⟩ ?_
        clear hK K
        simp only [Act.put]
        refine wpAny2_ready (rs := [7]) (by kernel_rfl) (by simp) (AllReady2.cons rfl (fun K hK => ?_) AllReady2.nil)
        rw [if_pos (by rfl)]
        refine wp_storeG9 wD rfl rfl C7.out HML.out (One.u8 _) (by rw [u8s_length, HDNL.out]) ?_
        intro v8 hr8 hbt8
        have R8f := hr7.but hbt8 H89.out
        have K8 := hide (K7.out.but C7.out (by decide) (by decide) hbt8)
        have BL8 := hide (BL7.out.but' (n := 0) hbt8 HH9.out)
        refine hK.out _ _ ⟨fun h => absurd h (by decide), fun h => absurd h (by decide)⟩ ?_
        clear hK K
        simp only [Act.put]
        refine wpAny2_done (by kernel_rfl) ?_ _
        refine NoPanic.normal ?_
        clear hHeld hu
        go_wp2
        refine bodyPost_ret (results_dd rfl wD wD _ _ rfl rfl R8f hr8 HOL.out HML.out) rfl ⟨rfl, ?_, BL8.out⟩
        have hfin := K8.out
        rw [← List.append_assoc]
        exact hfin
      · obtain ⟨e1, e2⟩ := hvM_hi (m := m) (b := b) (n := n) hm1 hne h2 hn48 hmn hb (by rw [← hk]; exact hc)
        rw [← hk, ← hmid] at e1 e2
        clear ih hE hB hen hk hmid hn hfu
        obtain ⟨A, hA⟩ : ∃ A, A = hvM m mid (n - k) := ⟨_, rfl⟩
        obtain ⟨t, ht⟩ : ∃ t, t = ptM m mid (n - k) := ⟨_, rfl⟩
        obtain ⟨q, hq⟩ : ∃ q, q = A.length := ⟨_, rfl⟩
        rw [← hA] at e1
        rw [← ht] at e2
        have hlen : (A ++ [(1 : Int)]).length = q + 1 := by rw [List.length_append, hq]; rfl
        rw [e1, e2, hlen] at hl ⊢
        have hlq : l = q + t + 1 := by omega
        subst hlq
        obtain ⟨bb, oo, rfl⟩ := hs.place (by omega)
        have hxd := dat_length hs.hlen (show q + t < q + t + 1 by omega)
        have hd0 : (st0 t first xs).length = 32 := st0_length hfl hs.hlen (by omega)
        have hd1 : isB (st0 t first xs) := st0_isB hfb hs.hbyte
        obtain ⟨DO, hDO⟩ : ∃ D, D = fo A ((xs.take (32 * (q + t))).drop (32 * t)) (st0 t first xs) q := ⟨_, rfl⟩
        obtain ⟨DN, hDN⟩ : ∃ D, D = fu A ((xs.take (32 * (q + t))).drop (32 * t)) (st0 t first xs) q := ⟨_, rfl⟩
        have HDOL : Hid (DO.length = 32) := hide (by rw [hDO]; exact fo_length hd0 _)
        have HDOB : Hid (isB DO) := hide (by rw [hDO]; exact fo_isB hd1 _)
        have HDNL : Hid (DN.length = 32) := hide (by rw [hDN]; exact fu_length hd0 _)
        have HDNB : Hid (isB DN) := hide (by rw [hDN]; exact fu_isB hd1 _)
        have HXD := hide hxd
        have HXB := hide (dat_isB hs.hbyte (q + t))
        have HXL : Hid ((u8s (dat xs (q + t))).length = 32) := hide (by rw [u8s_length, hxd])
        have HOL : Hid ((u8s DO).length = 32) := hide (by rw [u8s_length, HDOL.out])
        have HNL : Hid ((u8s DN).length = 32) := hide (by rw [u8s_length, HDNL.out])
        obtain ⟨f1, f2⟩ := step_hi A xs (st0 t first xs) t
        have f3 := so_hi A xs (st0 t first xs) t
        rw [← hq, ← hDO] at f1
        rw [← hq, ← hDN] at f2
        rw [← hq, ← hDO, ← hDN] at f3
        rw [f1, f2, f3]
        have HF65 : Hid ((1 :: (dat xs (q + t) ++ DN)).length = 65) := hide (by rw [List.length_cons, List.length_append, HDNL.out, hxd])
        have HO65 : Hid ((1 :: (dat xs (q + t) ++ DO)).length = 65) := hide (by rw [List.length_cons, List.length_append, HDOL.out, hxd])
        have HML : Hid ((u8s (nd (dat xs (q + t)) DN)).length = 32) := hide (by rw [u8s_length, nd_length])
        have HMO : Hid ((u8s (nd (dat xs (q + t)) DO)).length = 32) := hide (by rw [u8s_length, nd_length])
        have HQ := hide hq
        have HAA := hide hA
        have HPT := hide ht
        have HDO := hide hDO
        have HDN := hide hDN
        have HS := hide hs
        have HNN : Hid (e - mid = n - k) := hide (by have := HMID.out; have := HEE.out; omega)
        have hle : ¬ ((m : Int) ≤ (b : Int) + (k : Int)) := by have := HMID.out; omega
        have hle2 : mid < m := by have := HMID.out; omega
        clear hl e1 e2 hlen hs hxd hd0 hd1 hDO hDN hq hA ht f1 f2 f3
        go_enter Tryd.func54, Tryd.ntmps54
        go_wp2_with (refine step_box (cs := spn b e) rfl rfl ?_)
        intro w1 g6 hr1 hl1 hb1
        have B1 := hide hb1
        have G61 := hide hr1
        go_wp2_with (refine step_alloc zD rfl ?_)
        intro w2 g8 hr2 hl2 hb2
        have B2 := hide (B1.out.trans (hb2.mono B1.out.size))
        have G82 := hide hr2
        have G62 := hide (G61.out.on hb2)
        have h8 : w.heap.size ≤ g8 := Nat.le_trans B1.out.size hl2
        go_wp2_with (refine step_alloc zD rfl ?_)
        intro y g9 hr3 hl3 hb3
        have BY := hide (B2.out.trans (hb3.mono B2.out.size))
        have G9 := hide hr3
        have G8 := hide (G82.out.on hb3)
        have G6 := hide (G62.out.on hb3)
        have h9 : w.heap.size ≤ g9 := Nat.le_trans B2.out.size hl3
        have h89 : g8 ≠ g9 := by have := G82.out.lt; omega
        have EY := hide (HE.out.below BY.out)
        have KY := hide (HB.out.on BY.out)
        have HH8 := hide h8
        have HH9 := hide h9
        have H89 := hide h89
        clear hr1 hl1 hb1 hr2 hl2 hb2 hr3 hl3 hb3 B1 G61 B2 G82 G62 h8 h9 h89
        have cb : y.cell? ⟨g6, 0, none⟩ = some (.int .i64 (b : Int)) := by rw [G6.out.cell]; rfl
        have ce : y.cell? ⟨g6, 1, none⟩ = some (.int .i64 (e : Int)) := by rw [G6.out.cell]; rfl
        have cm : y.cell? ⟨gm, 0, none⟩ = some (.int .i64 (m : Int)) := by rw [EY.out.m.cell]; rfl
        have cs4 : y.cell? ⟨gr, 0, none⟩ = some (.func (.func 54) #[] #[.pointer (some ⟨gm, 0, none⟩), .pointer (some ⟨gf, 0, none⟩), .pointer (some ⟨gr, 0, none⟩), .pointer (some ⟨gs, 0, none⟩)]) := by rw [EY.out.self.cell]; rfl
        go_wp2_with (first | (go_at_call 37; rw [HW1.out]; refine (split_any n _ h2 hn63).mono ?_; rintro r w' ⟨rfl, rfl⟩; rw [← HKF.out]) | (go_at_call 55; refine (cutLast_any bb oo (q + t) cap xs _ (HS.out.below BY.out)).mono ?_))
        rintro r w2 ⟨rfl, hb2⟩
        have B2 := hide (BY.out.trans (hb2.mono BY.out.size))
        have E2 := hide (EY.out.below hb2)
        have N82 := hide (G8.out.on hb2)
        have N92 := hide (G9.out.on hb2)
        have N62 := hide (G6.out.on hb2)
        clear hb2
        go_wp2_with (refine step_alloc zD rfl ?_)
        intro w3 g14 hr3 hl3 hb3
        have B3 := hide (B2.out.trans (hb3.mono B2.out.size))
        have h14 : w.heap.size ≤ g14 := Nat.le_trans B2.out.size hl3
        have h814 : g8 ≠ g14 := by have := N82.out.lt; omega
        have h914 : g9 ≠ g14 := by have := N92.out.lt; omega
        have h614 : g6 ≠ g14 := by have := N62.out.lt; omega
        have N83 := hide (N82.out.on hb3)
        have N93 := hide (N92.out.on hb3)
        have N63 := hide (N62.out.on hb3)
        go_wp2_with (refine step_storeA wD rfl rfl rfl hr3 HXL.out (One.u8 _) (by rw [u8s_length, zer_length]) ?_)
        intro z hrz hbtz
        have GX := hide hrz
        have M8 := hide (N83.out.but hbtz h814)
        have M9 := hide (N93.out.but hbtz h914)
        have M6 := hide (N63.out.but hbtz h614)
        have BZ := hide (B3.out.trans (hbtz.below h14))
        have EZ := hide (HE.out.below BZ.out)
        have KZ := hide (HB.out.on BZ.out)
        have H814 := hide h814
        have H914 := hide h914
        have zb : z.cell? ⟨g6, 0, none⟩ = some (.int .i64 (b : Int)) := by rw [M6.out.cell]; rfl
        have ze : z.cell? ⟨g6, 1, none⟩ = some (.int .i64 (e : Int)) := by rw [M6.out.cell]; rfl
        have zm : z.cell? ⟨gm, 0, none⟩ = some (.int .i64 (m : Int)) := by rw [EZ.out.m.cell]; rfl
        have zr : z.cell? ⟨gr, 0, none⟩ = some (.func (.func 54) #[] #[.pointer (some ⟨gm, 0, none⟩), .pointer (some ⟨gf, 0, none⟩), .pointer (some ⟨gr, 0, none⟩), .pointer (some ⟨gs, 0, none⟩)]) := by rw [EZ.out.self.cell]; rfl
        clear hr3 hl3 hb3 hrz hbtz h814 h914 h614 N82 N92 N62 N83 N93 N63 E2 B2 B3 cs4 cb ce cm
        go_wp2_with fail
        rw [HW2.out]
        refine (HIH.out mid e _ (q + t) cap (xs.take (32 * (q + t))) L _ (by have := HMID.out; have := HEE.out; have := HKB.out; have := HFU.out; omega) hle2 hme (by have := HMID.out; have := HEE.out; have := HKB.out; omega) (by rw [HNN.out, ← HAA.out, ← HPT.out, HQ.out]) ((HS.out.take (q + t) (by omega)).below BZ.out) EZ.out KZ.out).mono ?_
        rintro r v1 ⟨rfl, hB1, hbel1⟩
        rw [HNN.out, ← HAA.out, ← HPT.out, ← HQ.out, st0_take, ← HDO.out, ← HDN.out]
        rw [HNN.out, ← HAA.out, ← HPT.out, ← HQ.out, st0_take] at hB1
        have E1 := hide (EZ.out.bel KZ.out hbel1)
        have X1 := hide (KZ.out.blk hbel1 GX.out (by decide))
        have P8 := hide (KZ.out.blk hbel1 M8.out (by decide))
        have P9 := hide (KZ.out.blk hbel1 M9.out (by decide))
        have BL1 := hide ((Bel.of_below (g := g) (mb := mb) BZ.out).trans hbel1)
        have K1 := hide hB1
        clear hB1 hbel1 zb ze zm zr
        go_wp2_with (refine step_storeA wD rfl rfl rfl P8.out HOL.out (One.u8 _) (by rw [u8s_length, zer_length]) ?_)
        intro v2 hr2 hbt2
        have Q8 := hide hr2
        have P92 := hide (P9.out.but hbt2 (Ne.symm H89.out))
        have X2 := hide (X1.out.but hbt2 (Ne.symm H814.out))
        have K2 := hide (K1.out.but P8.out (by decide) (by decide) hbt2)
        have BL2 := hide (BL1.out.but' (n := 0) hbt2 HH8.out)
        have n1 : gm ≠ g8 := by have := HE.out.m.lt; have := HH8.out; omega
        have n2 : gf ≠ g8 := by have := HE.out.first.lt; have := HH8.out; omega
        have n3 : gr ≠ g8 := by have := HE.out.self.lt; have := HH8.out; omega
        have n4 : gs ≠ g8 := by have := HE.out.sum.lt; have := HH8.out; omega
        have KK2 := hide (E1.out.kt.chg (Chg.of_but hbt2) (by have := HE.out.kt.lt; have := HH8.out; omega))
        have E2 : Hid (EO v2 gm gf gr gs g m first) := hide ⟨E1.out.m.but hbt2 n1, E1.out.first.but hbt2 n2, E1.out.self.but hbt2 n3, E1.out.sum.but hbt2 n4, KK2.out⟩
        clear hr2 hbt2 n1 n2 n3 n4 KK2
        go_wp2_with (refine step_storeA wD rfl rfl rfl P92.out HNL.out (One.u8 _) (by rw [u8s_length, zer_length]) ?_)
        intro y3 hr3 hbt3
        have R9 := hide hr3
        have R8 := hide (Q8.out.but hbt3 H89.out)
        have X3 := hide (X2.out.but hbt3 (Ne.symm H914.out))
        have K3 := hide (K2.out.but P92.out (by decide) (by decide) hbt3)
        have BL3 := hide (BL2.out.but' (n := 0) hbt3 HH9.out)
        have n1 : gm ≠ g9 := by have := HE.out.m.lt; have := HH9.out; omega
        have n2 : gf ≠ g9 := by have := HE.out.first.lt; have := HH9.out; omega
        have n3 : gr ≠ g9 := by have := HE.out.self.lt; have := HH9.out; omega
        have n4 : gs ≠ g9 := by have := HE.out.sum.lt; have := HH9.out; omega
        have KK3 := hide (E2.out.kt.chg (Chg.of_but hbt3) (by have := HE.out.kt.lt; have := HH9.out; omega))
        have E3 : Hid (EO y3 gm gf gr gs g m first) := hide ⟨E2.out.m.but hbt3 n1, E2.out.first.but hbt3 n2, E2.out.self.but hbt3 n3, E2.out.sum.but hbt3 n4, KK3.out⟩
        clear hr3 hbt3 n1 n2 n3 n4 KK3
        go_wp2_with fail
        refine wp_region_noPanic ?_
        have Z0 := hide ((Below.refl y3.heap.size y3).drew)
        have hu := aD.und
        have HI1 : Hid ((Tryd.prog.info? 23).map (·.size) = some (u8s DO).length) := hide (by rw [wD.size, HOL.out])
        have HI2 : Hid ((Tryd.prog.info? 23).map (·.size) = some (u8s DN).length) := hide (by rw [wD.size, HNL.out])
        have HI3 : Hid ((Tryd.prog.info? 23).map (·.size) = some (u8s (dat xs (q + t))).length) := hide (by rw [wD.size, HXL.out])
        have HSS : Hid (∀ v, EO v gm gf gr gs g m first → Blk v g14 23 (u8s (dat xs (q + t))) → Blk v g8 23 (u8s DO) → Blk v g9 23 (u8s DN) → (v.rangeAt g8 0 (u8s DO) ∧ v.cell? ⟨gs, 0, none⟩ = some (fsum g) ∧ v.rangeAt g14 0 (u8s (dat xs (q + t)))) ∧ v.rangeAt g9 0 (u8s DN) ∧ v.cell? ⟨gs, 0, none⟩ = some (fsum g) ∧ v.rangeAt g14 0 (u8s (dat xs (q + t)))) := hide (fun v h1 h2 h3 h4 => ⟨⟨h3.range 0 _ (by simp), by rw [h1.sum.cell]; rfl, h2.range 0 _ (by simp)⟩, h4.range 0 _ (by simp), by rw [h1.sum.cell]; rfl, h2.range 0 _ (by simp)⟩)
        refine wp_region_2 (q1 := 10) (q2 := 11) (S1 := fun v : World => v.rangeAt g8 0 (u8s DO) ∧ v.cell? ⟨gs, 0, none⟩ = some (fsum g) ∧ v.rangeAt g14 0 (u8s (dat xs (q + t)))) (S2 := fun v : World => v.rangeAt g9 0 (u8s DN) ∧ v.cell? ⟨gs, 0, none⟩ = some (fsum g) ∧ v.rangeAt g14 0 (u8s (dat xs (q + t)))) (by kernel_rfl) ?_
        have hHeld := HSS.out _ (E3.out.below Z0.out) (X3.out.on Z0.out) (R8.out.on Z0.out) (R9.out.on Z0.out)
        refine take21 0 77 (fsum g) hHeld rfl rfl (by kernel_rfl) (by kernel_rfl) (by kernel_rfl) (by kernel_rfl) (by kernel_rfl) (by kernel_rfl) (by kernel_rfl) (fun _ _ _ h => h) (Or.inl ⟨by rfl, fun w hw => by have hw' : w.cell? ⟨gs, 0, none⟩ = some (fsum g) := (fun hw => hw.2.1) hw; go_simp⟩) ?_
        simp only [Act.put, List.setIfInBounds_toArray, List.set_cons_zero, List.set_cons_succ]
        refine take21 1 78 (.agg (u8s (dat xs (q + t))).toArray) hHeld rfl rfl (by kernel_rfl) (by kernel_rfl) (by kernel_rfl) (by kernel_rfl) (by kernel_rfl) (by kernel_rfl) (by kernel_rfl) (fun _ _ _ h => h) (yieldsIf_load_mid (by rfl) _ _ rfl g14 0 rfl _ _ (fun v hv => hv.2.2) hu rfl HI3.out) ?_
        simp only [Act.put, List.setIfInBounds_toArray, List.set_cons_zero, List.set_cons_succ]
        refine take21 2 79 (.agg (u8s DO).toArray) hHeld rfl rfl (by kernel_rfl) (by kernel_rfl) (by kernel_rfl) (by kernel_rfl) (by kernel_rfl) (by kernel_rfl) (by kernel_rfl) (fun _ _ _ h => h) (yieldsIf_load_mid (by rfl) _ _ rfl g8 0 rfl _ _ (fun v hv => hv.1) hu rfl HI1.out) ?_
        simp only [Act.put, List.setIfInBounds_toArray, List.set_cons_zero, List.set_cons_succ]
        refine take22 5 82 (fsum g) hHeld rfl rfl (by kernel_rfl) (by kernel_rfl) (by kernel_rfl) (by kernel_rfl) (by kernel_rfl) (by kernel_rfl) (by kernel_rfl) (fun _ _ _ h => h) (Or.inl ⟨by rfl, fun w hw => by have hw' : w.cell? ⟨gs, 0, none⟩ = some (fsum g) := (fun hw => hw.2.1) hw; go_simp⟩) ?_
        simp only [Act.put, List.setIfInBounds_toArray, List.set_cons_zero, List.set_cons_succ]
        refine take22 6 83 (.agg (u8s (dat xs (q + t))).toArray) hHeld rfl rfl (by kernel_rfl) (by kernel_rfl) (by kernel_rfl) (by kernel_rfl) (by kernel_rfl) (by kernel_rfl) (by kernel_rfl) (fun _ _ _ h => h) (yieldsIf_load_mid (by rfl) _ _ rfl g14 0 rfl _ _ (fun v hv => hv.2.2) hu rfl HI3.out) ?_
        simp only [Act.put, List.setIfInBounds_toArray, List.set_cons_zero, List.set_cons_succ]
        refine take22 7 84 (.agg (u8s DN).toArray) hHeld rfl rfl (by kernel_rfl) (by kernel_rfl) (by kernel_rfl) (by kernel_rfl) (by kernel_rfl) (by kernel_rfl) (by kernel_rfl) (fun _ _ _ h => h) (yieldsIf_load_mid (by rfl) _ _ rfl g9 0 rfl _ _ (fun v hv => hv.1) hu rfl HI2.out) ?_
        simp only [Act.put, List.setIfInBounds_toArray, List.set_cons_zero, List.set_cons_succ]
        have E4 := hide (E3.out.below Z0.out)
        have X4 := hide (X3.out.on Z0.out)
        have A4 := hide (R8.out.on Z0.out)
        have C4 := hide (R9.out.on Z0.out)
        have K4 := hide (K3.out.on Z0.out)
        have BL4 := hide (BL3.out.trans (Bel.of_below Z0.out))
        refine wpAny2_ready (rs := [3]) (by kernel_rfl) (by simp) (AllReady2.cons rfl (fun K hK => ?_) AllReady2.nil)
        rw [if_pos (by rfl)]
        go_simp
        refine (pre_any (dat xs (q + t)) DO _ HXD.out HDOL.out HXB.out HDOB.out).mono ?_
        rintro r v5 ⟨vx, rfl, hn2, hv2⟩
        obtain ⟨gx, cx, rfl, _, hsx, hux⟩ := hn2.slu (isB_one HXB.out HDOB.out) (by rw [HO65.out]; omega)
        have SX := hide hsx
        have UX := hide hux
        rw [HO65.out] at SX UX ⊢
        have E5 := hide (E4.out.below hv2)
        have X5 := hide (X4.out.on hv2)
        have A5 := hide (A4.out.on hv2)
        have C5 := hide (C4.out.on hv2)
        have K5 := hide (K4.out.on hv2)
        have BL5 := hide (BL4.out.trans (Bel.of_below hv2))
        clear hn2 hv2 hsx hux
        refine hK.out _ _ ⟨fun _ => (HSS.out _ E5.out X5.out A5.out C5.out).1, fun _ => (HSS.out _ E5.out X5.out A5.out C5.out).2⟩ ?_
        have hHeld := HSS.out _ E5.out X5.out A5.out C5.out
        clear hK K
        refine wpAny2_ready (rs := [4]) (by kernel_rfl) (by simp) (AllReady2.cons rfl (fun K hK => ?_) AllReady2.nil)
        rw [if_pos (by rfl)]
        try simp only [fsum]
        go_simp
        refine (bsum_any g mb _ _ _ _ _ _ K5.out SX.out UX.out E5.out.kt).mono ?_
        rintro r v6 ⟨rfl, hB3, hbel3⟩
        rw [show dg bL 0 (1 :: ((dat xs (q + t)) ++ DO)) = nd (dat xs (q + t)) DO from rfl]
        have E6 := hide (E5.out.bel K5.out hbel3)
        have X6 := hide (K5.out.blk hbel3 X5.out (by decide))
        have A6 := hide (K5.out.blk hbel3 A5.out (by decide))
        have C6 := hide (K5.out.blk hbel3 C5.out (by decide))
        have BL6 := hide (BL5.out.trans hbel3)
        have K6 := hide hB3
        clear hB3 hbel3 SX UX
        refine hK.out _ _ ⟨fun _ => (HSS.out _ E6.out X6.out A6.out C6.out).1, fun _ => (HSS.out _ E6.out X6.out A6.out C6.out).2⟩ ?_
        have hHeld := HSS.out _ E6.out X6.out A6.out C6.out
        clear hK K
        refine wpAny2_ready (rs := [8]) (by kernel_rfl) (by simp) (AllReady2.cons rfl (fun K hK => ?_) AllReady2.nil)
        rw [if_pos (by rfl)]
        go_simp
        refine (pre_any (dat xs (q + t)) DN _ HXD.out HDNL.out HXB.out HDNB.out).mono ?_
        rintro r v7 ⟨vx, rfl, hn2, hv2⟩
        obtain ⟨gx, cx, rfl, _, hsx, hux⟩ := hn2.slu (isB_one HXB.out HDNB.out) (by rw [HF65.out]; omega)
        have SX := hide hsx
        have UX := hide hux
        rw [HF65.out] at SX UX ⊢
        have E7 := hide (E6.out.below hv2)
        have X7 := hide (X6.out.on hv2)
        have A7 := hide (A6.out.on hv2)
        have C7 := hide (C6.out.on hv2)
        have K7 := hide (K6.out.on hv2)
        have BL7 := hide (BL6.out.trans (Bel.of_below hv2))
        clear hn2 hv2 hsx hux
        refine hK.out _ _ ⟨fun _ => (HSS.out _ E7.out X7.out A7.out C7.out).1, fun _ => (HSS.out _ E7.out X7.out A7.out C7.out).2⟩ ?_
        have hHeld := HSS.out _ E7.out X7.out A7.out C7.out
        clear hK K
        refine wpAny2_ready (rs := [9]) (by kernel_rfl) (by simp) (AllReady2.cons rfl (fun K hK => ?_) AllReady2.nil)
        rw [if_pos (by rfl)]
        try simp only [fsum]
        go_simp
        refine (bsum_any g mb _ _ _ _ _ _ K7.out SX.out UX.out E7.out.kt).mono ?_
        rintro r v8 ⟨rfl, hB3, hbel3⟩
        rw [show dg bL 0 (1 :: ((dat xs (q + t)) ++ DN)) = nd (dat xs (q + t)) DN from rfl]
        have E8 := hide (E7.out.bel K7.out hbel3)
        have X8 := hide (K7.out.blk hbel3 X7.out (by decide))
        have A8 := hide (K7.out.blk hbel3 A7.out (by decide))
        have C8 := hide (K7.out.blk hbel3 C7.out (by decide))
        have BL8 := hide (BL7.out.trans hbel3)
        have K8 := hide hB3
        clear hB3 hbel3 SX UX
        refine hK.out _ _ ⟨fun _ => (HSS.out _ E8.out X8.out A8.out C8.out).1, fun _ => (HSS.out _ E8.out X8.out A8.out C8.out).2⟩ ?_
        have hHeld := HSS.out _ E8.out X8.out A8.out C8.out
        clear hK K
        refine wpAny2_ready (rs := [10]) (by kernel_rfl) (by simp) (AllReady2.cons rfl (fun K hK => ?_) AllReady2.nil)
        rw [if_pos (by rfl)]
        refine wp_storeG9 wD rfl rfl A8.out HMO.out (One.u8 _) (by rw [u8s_length, HDOL.out]) ?_
        intro v9 hr9 hbt9
        have ng : gs ≠ g8 := by have := HE.out.sum.lt; have := HH8.out; omega
        have C9 := hide (C8.out.but hbt9 (Ne.symm H89.out))
        have K9 := hide (K8.out.but A8.out (by decide) (by decide) hbt9)
        have BL9 := hide (BL8.out.but' (n := 0) hbt9 HH8.out)
        refine hK.out _ _ ⟨fun h => absurd h (by decide), fun _ => ⟨C9.out.range 0 _ (by simp), by rw [(E8.out.sum.but hbt9 ng).cell]; rfl, (X8.out.but hbt9 (Ne.symm H814.out)).range 0 _ (by simp)⟩⟩ ?_
        clear hK K
        simp only [Act.put]
        refine wpAny2_ready (rs := [11]) (by kernel_rfl) (by simp) (AllReady2.cons rfl (fun K hK => ?_) AllReady2.nil)
        rw [if_pos (by rfl)]
        refine wp_storeG9 wD rfl rfl C9.out HML.out (One.u8 _) (by rw [u8s_length, HDNL.out]) ?_
        intro v10 hr10 hbt10
        have R8f := hr9.but hbt10 H89.out
        have K10 := hide (K9.out.but C9.out (by decide) (by decide) hbt10)
        have BL10 := hide (BL9.out.but' (n := 0) hbt10 HH9.out)
        refine hK.out _ _ ⟨fun h => absurd h (by decide), fun h => absurd h (by decide)⟩ ?_
        clear hK K
        simp only [Act.put]
        refine wpAny2_done (by kernel_rfl) ?_ _
        refine NoPanic.normal ?_
        clear hHeld hu
        go_wp2
        refine bodyPost_ret (results_dd rfl wD wD _ _ rfl rfl R8f hr10 HMO.out HML.out) rfl ⟨rfl, ?_, BL10.out⟩
        have hfin := K10.out
        simpa using hfin

end Go.Proofs.YtconeobaohmbnaaDoor

/-
  rehashConsistency itself.
-/
namespace Go.Proofs.YtconeobaohmbnaaDoor
open Go.RowKit
set_option linter.unusedVariables false

theorem zF98 : Zeroed 98 [.nilFunc] := fun _ _ _ _ _ _ _ => by kernel_rfl
theorem build_69 (n : Int) (v : World) : (Instr.build 69 #[(1, .int .i64 n)]).run Tryd.prog v = .ok (.agg #[.int .i64 0, .int .i64 n]) v := by kernel_rfl
set_option maxRecDepth 100000 in
set_option maxHeartbeats 1000000 in
theorem rcon_any (g mb : Nat) (first : List Int) (hfl : first.length = 32) (hfb : isB first) (m n : Nat) (a : Option Addr) (l cap : Nat) (xs : List Int) (L : List (List Int)) (w : World) (hm : 1 ≤ m) (hmn : m ≤ n) (hn : n ≤ 281474976710656) (hl : l = (hvM m 0 n).length + ptM m 0 n) (hs : Ds w a l cap xs) (hB : Bk w g mb L) (hk : KT w) :
    Calls Tryd.prog 32 #[fsum g, .agg (u8s first).toArray, .int .i64 (m : Int), .int .i64 (n : Int), .slice a l cap] w
      fun r w' => (∃ v, r = .returned v) ∧ Bk w' g mb (L ++ so (hvM m 0 n) (xs.drop (32 * ptM m 0 n)) (st0 (ptM m 0 n) first xs) (hvM m 0 n).length) ∧ Bel g mb w w' := by
  have HS := hide hs
  have HB := hide hB
  have HK := hide hk
  have hd0 : (st0 (ptM m 0 n) first xs).length = 32 := st0_length hfl hs.hlen (by omega)
  obtain ⟨DO, HDO⟩ : ∃ D, Hid (D = fo (hvM m 0 n) (xs.drop (32 * ptM m 0 n)) (st0 (ptM m 0 n) first xs) (hvM m 0 n).length) := ⟨_, hide rfl⟩
  obtain ⟨DN, HDN⟩ : ∃ D, Hid (D = fu (hvM m 0 n) (xs.drop (32 * ptM m 0 n)) (st0 (ptM m 0 n) first xs) (hvM m 0 n).length) := ⟨_, hide rfl⟩
  have HOL := hide (show (u8s DO).length = 32 by rw [u8s_length, HDO.out]; exact fo_length hd0 _)
  have HNL := hide (show (u8s DN).length = 32 by rw [u8s_length, HDN.out]; exact fu_length hd0 _)
  have HL := hide hl
  clear hs hB hk hl hd0
  simp only [fsum]
  go_enter Tryd.func32, Tryd.ntmps32
  go_wp2_with (refine step_boxF rfl rfl ?_)
  intro w1 gs hr1 hl1 hb1
  have S1 := hide hr1
  have B1 := hide hb1
  go_wp2_with (refine step_box (cs := u8s first) rfl rfl ?_)
  intro w2 gf hr2 hl2 hb2
  have F2 := hide hr2
  have S2 := hide (S1.out.on hb2)
  have B2 := hide (B1.out.trans (hb2.mono B1.out.size))
  go_wp2_with (refine step_boxI rfl rfl ?_)
  intro w3 gm hr3 hl3 hb3
  have M3 := hide hr3
  have F3 := hide (F2.out.on hb3)
  have S3 := hide (S2.out.on hb3)
  have B3 := hide (B2.out.trans (hb3.mono B2.out.size))
  clear hr1 hl1 hb1 hr2 hl2 hb2 hr3 hl3 hb3
  go_wp2_with (refine step_alloc zD rfl ?_)
  intro w4 g10 hr4 hl4 hb4
  have T4 := hide hr4
  have M4 := hide (M3.out.on hb4)
  have F4 := hide (F3.out.on hb4)
  have S4 := hide (S3.out.on hb4)
  have B4 := hide (B3.out.trans (hb4.mono B3.out.size))
  have h10 : w.heap.size ≤ g10 := Nat.le_trans B3.out.size hl4
  go_wp2_with (refine step_alloc zD rfl ?_)
  intro w5 g11 hr5 hl5 hb5
  have U5 := hide hr5
  have T5 := hide (T4.out.on hb5)
  have M5 := hide (M4.out.on hb5)
  have F5 := hide (F4.out.on hb5)
  have S5 := hide (S4.out.on hb5)
  have B5 := hide (B4.out.trans (hb5.mono B4.out.size))
  have h11 : w.heap.size ≤ g11 := Nat.le_trans B4.out.size hl5
  have n1011 : g10 ≠ g11 := by have := T4.out.lt; omega
  clear hr4 hl4 hb4 hr5 hl5 hb5
  go_wp2_with (refine step_alloc zF98 rfl ?_)
  intro w6 gr hr6 hl6 hb6
  have R6 := hide hr6
  have U6 := hide (U5.out.on hb6)
  have T6 := hide (T5.out.on hb6)
  have M6 := hide (M5.out.on hb6)
  have F6 := hide (F5.out.on hb6)
  have S6 := hide (S5.out.on hb6)
  have B6 := hide (B5.out.trans (hb6.mono B5.out.size))
  have n1 : gm ≠ gr := by have := M5.out.lt; omega
  have n2 : gf ≠ gr := by have := F5.out.lt; omega
  have n3 : gs ≠ gr := by have := S5.out.lt; omega
  have n4 : g10 ≠ gr := by have := T5.out.lt; omega
  have n5 : g11 ≠ gr := by have := U5.out.lt; omega
  have h12 : w.heap.size ≤ gr := Nat.le_trans B5.out.size hl6
  have hc5 : w6.cell? ⟨gr, 0, none⟩ = some .nilFunc := by rw [R6.out.cell]; rfl
  have hf5 := R6.out.free 0
  have hg6 := R6.out.set 0 (.func (.func 54) #[] #[.pointer (some ⟨gm, 0, none⟩), .pointer (some ⟨gf, 0, none⟩), .pointer (some ⟨gr, 0, none⟩), .pointer (some ⟨gs, 0, none⟩)])
  have hbut6 := But.setCell w6 gr 0 (.func (.func 54) #[] #[.pointer (some ⟨gm, 0, none⟩), .pointer (some ⟨gf, 0, none⟩), .pointer (some ⟨gr, 0, none⟩), .pointer (some ⟨gs, 0, none⟩)])
  have hbuild := build_69 (n : Int)
  clear hr6 hl6 hb6
  go_wp2_with fail
  clear hc5 hf5 hbuild
  generalize w6.setCell ⟨gr, 0, none⟩ (.func (.func 54) #[] #[.pointer (some ⟨gm, 0, none⟩), .pointer (some ⟨gf, 0, none⟩), .pointer (some ⟨gr, 0, none⟩), .pointer (some ⟨gs, 0, none⟩)]) = z at hg6 hbut6 ⊢
  have BZ := hide (B6.out.trans (hbut6.below h12))
  have EZ : Hid (EO z gm gf gr gs g m first) := hide ⟨M6.out.but hbut6 n1, F6.out.but hbut6 n2, hg6, S6.out.but hbut6 n3, HK.out.below BZ.out HK.out.lt⟩
  have KZ := hide (HB.out.on BZ.out)
  have T7 := hide (T6.out.but hbut6 n4)
  have U7 := hide (U6.out.but hbut6 n5)
  clear hg6 hbut6 n1 n2 n3 n4 n5
  have hrec := ron_any gm gf gr gs g mb m first hfl hfb n 0 n a l cap xs L z (by omega) (by omega) hmn hn (by rw [Nat.sub_zero]; exact HL.out) (HS.out.below BZ.out) EZ.out KZ.out
  rw [Nat.sub_zero] at hrec
  refine hrec.mono ?_
  clear hrec
  rintro r v1 ⟨rfl, hB1, hbel1⟩
  rw [← HDO.out, ← HDN.out]
  have T8 := hide (KZ.out.blk hbel1 T7.out (by decide))
  have U8 := hide (KZ.out.blk hbel1 U7.out (by decide))
  have BL := hide ((Bel.of_below (g := g) (mb := mb) BZ.out).trans hbel1)
  have K1 := hide hB1
  clear hB1 hbel1
  go_wp2_with (refine step_storeA wD rfl rfl rfl T8.out HOL.out (One.u8 _) (by rw [u8s_length, zer_length]) ?_)
  intro v2 hr2 hbt2
  have K2 := hide (K1.out.but T8.out (by decide) (by decide) hbt2)
  have U9 := hide (U8.out.but hbt2 (Ne.symm n1011))
  have BL2 := hide (BL.out.but' (n := 0) hbt2 h10)
  go_wp2_with (refine step_storeA wD rfl rfl rfl U9.out HNL.out (One.u8 _) (by rw [u8s_length, zer_length]) ?_)
  intro v3 hr3 hbt3
  have K3 := hide (K2.out.but U9.out (by decide) (by decide) hbt3)
  go_wp2
  refine bodyPost_ret (results_dd rfl wD wD _ _ rfl rfl (hr2.but hbt3 n1011) hr3 HOL.out HNL.out) rfl ⟨⟨_, rfl⟩, K3.out, BL2.out.but' (n := 0) hbt3 h11⟩

end Go.Proofs.YtconeobaohmbnaaDoor

/-
  collision, with the closure of Extract; Extract.
-/
namespace Go.Proofs.YtconeobaohmbnaaDoor
open Go.RowKit
set_option linter.unusedVariables false

theorem run_makeMp (w : World) : (Instr.makeMap 95 none).run Tryd.prog w = .ok (.map (some w.heap.size)) (w.alloc (.map #[] 0)) := by kernel_rfl
theorem build_book (mb : Nat) (v : World) : (Instr.build 97 #[(0, .map (some mb))]).run Tryd.prog v = .ok (.agg #[.map (some mb), .slice none 0 0, .slice none 0 0, .bool false]) v := by kernel_rfl
/-- What is told of the strings Lst: nothing, where no two unlike ones have one digest; two such. -/
structure Told (w : World) (Lst : List (List Int)) (av bv : Value) (fd : Bool) : Prop where
  no : fd = false → av = .slice none 0 0 ∧ bv = .slice none 0 0 ∧ OneEach (fun s => s ∈ Lst)
  yes : fd = true → ∃ a l c A b m d B, av = .slice a l c ∧ bv = .slice b m d ∧ Sl w a l c A ∧ Sl w b m d B ∧ A ≠ B ∧ dg bL 0 A = dg bL 0 B
theorem BkD.told {w : World} {g mb : Nat} {L F : List (List Int)} {av bv : Value} {fd : Bool} {es : Array MapEntry} {clock : Nat} (h : BkD w g mb L F av bv fd es clock) : Told w L av bv fd := by
  refine ⟨fun hf => ?_, fun hf => ?_⟩
  · obtain ⟨h1, h2, h3⟩ := h.no hf
    exact ⟨h1, h2, fun s t hs ht e => h.one s t (h3 s hs) (h3 t ht) e⟩
  · obtain ⟨a, l, c, A, b, m, d, B, h1, h2, h3, h4, h5, h6, _⟩ := h.yes hf
    exact ⟨a, l, c, A, b, m, d, B, h1, h2, h3, h4, h5, h6⟩
theorem Told.below {w w' : World} {Lst : List (List Int)} {av bv : Value} {fd : Bool} (h : Told w Lst av bv fd) (hb : Below w.heap.size w w') : Told w' Lst av bv fd :=
  ⟨h.no, fun hf => by
    obtain ⟨a, l, c, A, b, m, d, B, h1, h2, h3, h4, h5, h6⟩ := h.yes hf
    exact ⟨a, l, c, A, b, m, d, B, h1, h2, h3.below hb, h4.below hb, h5, h6⟩⟩

set_option maxRecDepth 100000 in
set_option maxHeartbeats 1000000 in
theorem collE_any (cap : Value) (Lst : List (List Int)) (w : World)
    (hG : ∀ (y : World) (g mb : Nat), Below w.heap.size w y → Bk y g mb [] → Calls Tryd.prog 31 #[fsum g, cap] y fun r y' => r = .returned (.tuple #[]) ∧ Bk y' g mb Lst ∧ Bel g mb y y') :
    Calls Tryd.prog 30 #[.func (.func 31) #[] #[cap]] w fun r w' => ∃ av bv fd, r = .returned (.tuple #[av, bv, .bool fd]) ∧ Told w' Lst av bv fd ∧ Below w.heap.size w w' := by
  have HG := hide hG
  clear hG
  have hmk := run_makeMp w
  have hbd := build_book w.heap.size
  go_enter Tryd.func30, Tryd.ntmps30
  go_wp2_with (refine step_box (cs := [.map (some w.heap.size), .slice none 0 0, .slice none 0 0, .bool false]) rfl rfl ?_)
  intro y g hr hl hb
  have hb0 : Below w.heap.size w (w.alloc (.map #[] 0)) := (Below.refl _ _).alloc (Nat.le_refl _) _
  have hmap : y.heap[w.heap.size]? = some (.map #[] 0) := by
    rw [hb.block w.heap.size (by simp)]
    exact heap_alloc_new w _
  have BY := hide (hb0.trans (hb.mono (by simp)))
  have hg : w.heap.size ≤ g := Nat.le_trans (by simp) hl
  have KY : Hid (Bk y g w.heap.size []) := hide ⟨[], _, _, _, #[], 0, hr, hmap, by simp, by simp, by simp, fun _ => ⟨rfl, rfl, by simp⟩, fun h => by cases h⟩
  clear hmk hbd hb0 hmap hr hl hb
  go_wp2_with fail
  refine (HG.out y g w.heap.size BY.out KY.out).mono ?_
  rintro r z ⟨rfl, hB1, hbel1⟩
  obtain ⟨F, av, bv, fd, es, clock, hd⟩ := hB1
  have HD := hide hd
  have BZ := hide (BY.out.trans (hbel1.below hg (Nat.le_refl _) BY.out.size))
  clear hd hbel1
  go_wp2_with fail
  refine wp_region_noPanic ?_
  have Z0 := hide ((Below.refl z.heap.size z).drew)
  refine wp_region_held_drew (S := fun v : World => v.cell? ⟨g, 1, none⟩ = some av ∧ v.cell? ⟨g, 2, none⟩ = some bv ∧ v.cell? ⟨g, 3, none⟩ = some (.bool fd)) (by kernel_rfl) ⟨by rw [(HD.out.blk.on Z0.out).cell]; rfl, by rw [(HD.out.blk.on Z0.out).cell]; rfl, by rw [(HD.out.blk.on Z0.out).cell]; rfl⟩ (fun hHeld => ?_)
  refine takeH 0 13 (.pointer (some ⟨g, 0, none⟩)) hHeld rfl rfl (by kernel_rfl) (by kernel_rfl) (by kernel_rfl) (fun _ _ _ h => h) (Or.inl ⟨by rfl, fun w _ => by go_simp⟩) ?_
  simp only [Act.put, List.setIfInBounds_toArray, List.set_cons_zero, List.set_cons_succ]
  refine takeH 1 14 (.pointer (some ⟨g, 0, none⟩)) hHeld rfl rfl (by kernel_rfl) (by kernel_rfl) (by kernel_rfl) (fun _ _ _ h => h) (Or.inl ⟨by rfl, fun w _ => by go_simp⟩) ?_
  simp only [Act.put, List.setIfInBounds_toArray, List.set_cons_zero, List.set_cons_succ]
  refine takeH 2 15 (.pointer (some ⟨g, 1, none⟩)) hHeld rfl rfl (by kernel_rfl) (by kernel_rfl) (by kernel_rfl) (fun _ _ _ h => h) (Or.inl ⟨by rfl, fun w _ => by go_simp⟩) ?_
  simp only [Act.put, List.setIfInBounds_toArray, List.set_cons_zero, List.set_cons_succ]
  refine takeH 3 16 (av) hHeld rfl rfl (by kernel_rfl) (by kernel_rfl) (by kernel_rfl) (fun _ _ _ h => h) (Or.inl ⟨by rfl, fun w hw => by have hw' : w.cell? ⟨g, 1, none⟩ = some (av) := (fun hw => hw.1) hw; go_simp⟩) ?_
  simp only [Act.put, List.setIfInBounds_toArray, List.set_cons_zero, List.set_cons_succ]
  refine takeH 4 17 (.pointer (some ⟨g, 0, none⟩)) hHeld rfl rfl (by kernel_rfl) (by kernel_rfl) (by kernel_rfl) (fun _ _ _ h => h) (Or.inl ⟨by rfl, fun w _ => by go_simp⟩) ?_
  simp only [Act.put, List.setIfInBounds_toArray, List.set_cons_zero, List.set_cons_succ]
  refine takeH 5 18 (.pointer (some ⟨g, 0, none⟩)) hHeld rfl rfl (by kernel_rfl) (by kernel_rfl) (by kernel_rfl) (fun _ _ _ h => h) (Or.inl ⟨by rfl, fun w _ => by go_simp⟩) ?_
  simp only [Act.put, List.setIfInBounds_toArray, List.set_cons_zero, List.set_cons_succ]
  refine takeH 6 19 (.pointer (some ⟨g, 2, none⟩)) hHeld rfl rfl (by kernel_rfl) (by kernel_rfl) (by kernel_rfl) (fun _ _ _ h => h) (Or.inl ⟨by rfl, fun w _ => by go_simp⟩) ?_
  simp only [Act.put, List.setIfInBounds_toArray, List.set_cons_zero, List.set_cons_succ]
  refine takeH 7 20 (bv) hHeld rfl rfl (by kernel_rfl) (by kernel_rfl) (by kernel_rfl) (fun _ _ _ h => h) (Or.inl ⟨by rfl, fun w hw => by have hw' : w.cell? ⟨g, 2, none⟩ = some (bv) := (fun hw => hw.2.1) hw; go_simp⟩) ?_
  simp only [Act.put, List.setIfInBounds_toArray, List.set_cons_zero, List.set_cons_succ]
  refine takeH 8 21 (.pointer (some ⟨g, 0, none⟩)) hHeld rfl rfl (by kernel_rfl) (by kernel_rfl) (by kernel_rfl) (fun _ _ _ h => h) (Or.inl ⟨by rfl, fun w _ => by go_simp⟩) ?_
  simp only [Act.put, List.setIfInBounds_toArray, List.set_cons_zero, List.set_cons_succ]
  refine takeH 9 22 (.pointer (some ⟨g, 0, none⟩)) hHeld rfl rfl (by kernel_rfl) (by kernel_rfl) (by kernel_rfl) (fun _ _ _ h => h) (Or.inl ⟨by rfl, fun w _ => by go_simp⟩) ?_
  simp only [Act.put, List.setIfInBounds_toArray, List.set_cons_zero, List.set_cons_succ]
  refine takeH 10 23 (.pointer (some ⟨g, 3, none⟩)) hHeld rfl rfl (by kernel_rfl) (by kernel_rfl) (by kernel_rfl) (fun _ _ _ h => h) (Or.inl ⟨by rfl, fun w _ => by go_simp⟩) ?_
  simp only [Act.put, List.setIfInBounds_toArray, List.set_cons_zero, List.set_cons_succ]
  refine takeH 11 24 (.bool fd) hHeld rfl rfl (by kernel_rfl) (by kernel_rfl) (by kernel_rfl) (fun _ _ _ h => h) (Or.inl ⟨by rfl, fun w hw => by have hw' : w.cell? ⟨g, 3, none⟩ = some (.bool fd) := (fun hw => hw.2.2) hw; go_simp⟩) ?_
  simp only [Act.put, List.setIfInBounds_toArray, List.set_cons_zero, List.set_cons_succ]
  refine takeH 12 2 av hHeld rfl rfl (by kernel_rfl) (by kernel_rfl) (by kernel_rfl) (fun _ _ _ h => h) (Or.inl ⟨by rfl, fun w _ => by go_simp⟩) ?_
  simp only [Act.put, List.setIfInBounds_toArray, List.set_cons_zero, List.set_cons_succ]
  refine takeH 13 3 bv hHeld rfl rfl (by kernel_rfl) (by kernel_rfl) (by kernel_rfl) (fun _ _ _ h => h) (Or.inl ⟨by rfl, fun w _ => by go_simp⟩) ?_
  simp only [Act.put, List.setIfInBounds_toArray, List.set_cons_zero, List.set_cons_succ]
  refine takeH 14 4 (.bool fd) hHeld rfl rfl (by kernel_rfl) (by kernel_rfl) (by kernel_rfl) (fun _ _ _ h => h) (Or.inl ⟨by rfl, fun w _ => by go_simp⟩) ?_
  simp only [Act.put, List.setIfInBounds_toArray, List.set_cons_zero, List.set_cons_succ]
  refine wpAnyH_done (by kernel_rfl) ?_ _
  refine NoPanic.normal ?_
  clear hHeld
  go_wp2
  refine bodyPost_ret (results_tmp3 rfl _ _ _) rfl ⟨av, bv, fd, rfl, (HD.out.on Z0.out).told, BZ.out.trans (Z0.out.mono BZ.out.size)⟩

/-- Of a claim that was accepted: what the numbers are. -/
structure Ac9 (c : Cv) (m n i : Nat) : Prop where
  em : c.m = (m : Int)
  en : c.n = (n : Int)
  ei : c.i = (i : Int)
  hm : 1 ≤ m
  hmn : m ≤ n
  hn : n ≤ 281474976710656
  him : i < m
  ls : c.ls = (hvM m 0 n).length + ptM m 0 n
  lo : c.lo = (hvL i 0 m).length
  ln : c.ln = (hvL i 0 n).length
  fO : fo (hvM m 0 n) (c.S.drop (32 * ptM m 0 n)) (st0 (ptM m 0 n) c.o c.S) (hvM m 0 n).length = c.o
  fN : fu (hvM m 0 n) (c.S.drop (32 * ptM m 0 n)) (st0 (ptM m 0 n) c.o c.S) (hvM m 0 n).length = c.nw
  fx : fu (hvL i 0 m) c.O (lf c.X) c.lo = c.o
  fy : fu (hvL i 0 n) c.N (lf c.Y) c.ln = c.nw
theorem conE_zero {o nw : List Int} {m n : Int} {l : Nat} {xs : List Int} (h : conE o nw m n l xs = 0) : ∃ m' n' : Nat, m = (m' : Int) ∧ n = (n' : Int) ∧ 1 ≤ m' ∧ m' ≤ n' ∧ n' ≤ 281474976710656 ∧ l = (hvM m' 0 n').length + ptM m' 0 n' ∧
    fo (hvM m' 0 n') (xs.drop (32 * ptM m' 0 n')) (st0 (ptM m' 0 n') o xs) (hvM m' 0 n').length = o ∧ fu (hvM m' 0 n') (xs.drop (32 * ptM m' 0 n')) (st0 (ptM m' 0 n') o xs) (hvM m' 0 n').length = nw := by
  unfold conE at h
  split at h
  · cases h
  · rename_i hc
    obtain ⟨m', rfl⟩ : ∃ i' : Nat, m = (i' : Int) := ⟨m.toNat, by omega⟩
    obtain ⟨n', rfl⟩ : ∃ i' : Nat, n = (i' : Int) := ⟨n.toNat, by omega⟩
    rw [Int.toNat_natCast, Int.toNat_natCast] at h
    split at h
    · rename_i hl
      split at h
      · rename_i hh
        exact ⟨m', n', rfl, rfl, by omega, by omega, by omega, hl, hh.1, hh.2⟩
      · cases h
    · cases h
theorem incB_true {data : List Int} {i n : Int} {l : Nat} {xs root : List Int} (h : incB data i n l xs root = true) : ∃ i' n' : Nat, i = (i' : Int) ∧ n = (n' : Int) ∧ i' < n' ∧ n' ≤ 281474976710656 ∧ l = (hvL i' 0 n').length ∧ fu (hvL i' 0 n') xs (lf data) l = root := by
  unfold incB at h
  have h0 : incE (lf data) i n l xs root = 0 := by simpa using h
  unfold incE at h0
  split at h0
  · cases h0
  · rename_i hc
    obtain ⟨i', rfl⟩ : ∃ i' : Nat, i = (i' : Int) := ⟨i.toNat, by omega⟩
    obtain ⟨n', rfl⟩ : ∃ i' : Nat, n = (i' : Int) := ⟨n.toNat, by omega⟩
    rw [Int.toNat_natCast, Int.toNat_natCast] at h0
    split at h0
    · rename_i hl
      split at h0
      · rename_i hh
        exact ⟨i', n', rfl, rfl, by omega, by omega, hl, hh⟩
      · cases h0
    · cases h0
theorem Cv.accs {c : Cv} (h : c.acc = true) : ∃ m n i, Ac9 c m n i := by
  unfold Cv.acc at h
  rw [Bool.and_eq_true, Bool.and_eq_true] at h
  obtain ⟨⟨h1, h2⟩, h3⟩ := h
  have h1' : c.e1 = 0 := by simpa using h1
  obtain ⟨m, n, a1, a2, a3, a4, a5, a6, a7, a8⟩ := conE_zero h1'
  obtain ⟨i, m', b1, b2, b3, b4, b5, b6⟩ := incB_true h2
  obtain ⟨i', n', c1, c2, c3, c4, c5, c6⟩ := incB_true h3
  obtain rfl : m' = m := by omega
  obtain rfl : n' = n := by omega
  obtain rfl : i' = i := by omega
  exact ⟨_, _, _, a1, a2, b1, a3, a4, a5, b3, a6, b5, c5, a7, a8, b6, c6⟩
/-- The strings that the three checks hash. -/
def Cv.strs (c : Cv) (m n i : Nat) : List (List Int) := so (hvM m 0 n) (c.S.drop (32 * ptM m 0 n)) (st0 (ptM m 0 n) c.o c.S) (hvM m 0 n).length ++ ((0 :: c.X) :: si (hvL i 0 m) c.O (lf c.X) c.lo) ++ ((0 :: c.Y) :: si (hvL i 0 n) c.N (lf c.Y) c.ln)
/-- .. two unlike ones of them have one digest, where the leaves are unlike. -/
theorem Ac9.leaves {c : Cv} {m n i : Nat} (h : Ac9 c m n i) (ho : c.o.length = 32) (hS : c.S.length = 32 * c.ls) (hO : OneEach (fun s => s ∈ c.strs m n i)) : c.X = c.Y := by
  refine leaf_down (S := fun s => s ∈ c.strs m n i) hO (xs := c.S.drop (32 * ptM m 0 n)) (d0 := st0 (ptM m 0 n) c.o c.S) (px := c.O) (py := c.N) (m := m) (i := i) (st0_length ho hS (by rw [h.ls]; omega)) ?_ ?_ h.him n 0 n (Nat.le_refl _) h.hn (Nat.zero_le _) (by have := h.hmn; omega) ?_ ?_ ?_ ?_ ?_ ?_
  · unfold Cv.strs; simp
  · unfold Cv.strs; simp
  · intro j hj
    rw [dat_drop]
    exact dat_length hS (by rw [h.ls]; omega)
  · rw [Nat.sub_zero, ← h.lo, h.fx, h.fO]
  · rw [← h.ln, h.fy, h.fN]
  · intro s hs
    unfold Cv.strs
    simp [hs]
  · intro s hs
    rw [Nat.sub_zero, ← h.lo] at hs
    unfold Cv.strs
    simp [hs]
  · intro s hs
    rw [← h.ln] at hs
    unfold Cv.strs
    simp [hs]

set_option maxRecDepth 100000 in
set_option maxHeartbeats 1000000 in
theorem exc1_any (c : Cv) (m n i gc g mb : Nat) (w : World) (hA : Ac9 c m n i) (hi : c.In w) (hc : Blk w gc 27 c.cells) (hk : KT w) (hB : Bk w g mb []) :
    Calls Tryd.prog 31 #[fsum g, .pointer (some ⟨gc, 0, none⟩)] w fun r w' => r = .returned (.tuple #[]) ∧ Bk w' g mb (c.strs m n i) ∧ Bel g mb w w' := by
  have HA := hide hA
  have HI := hide hi
  have HC := hide hc
  have HK := hide hk
  have HB := hide hB
  have HO := hide hi.lo
  have HN := hide hi.ln
  clear hA hi hc hk hB
  obtain ⟨k1, k2, k3, k4, k5, k6, k7, k8⟩ := Cv.at HC.out HO.out HN.out
  rw [HA.out.em] at k1
  rw [HA.out.en] at k2
  rw [HA.out.ei] at k4
  simp only [fsum]
  go_enter Tryd.func31, Tryd.ntmps31
  go_wp2_with (first | (refine step_load wD rfl rfl HC.out (u8s c.o) (by rw [u8s_length, HO.out]) (Cv.fO HO.out) ?_) | (go_at_call 32; refine (rcon_any g mb c.o HO.out HI.out.bo m n c.aq c.ls c.cs c.S [] _ HA.out.hm HA.out.hmn HA.out.hn HA.out.ls HI.out.ds HB.out HK.out).mono ?_))
  rintro r w1 ⟨⟨v1, rfl⟩, hB1, hbel1⟩
  rw [List.nil_append] at hB1
  have C1 := hide (HB.out.blk hbel1 HC.out (by decide))
  have X1 := hide (HB.out.sl hbel1 HI.out.sx)
  have Y1 := hide (HB.out.sl hbel1 HI.out.sy)
  have O1 := hide (HB.out.ds hbel1 HI.out.dO)
  have N1 := hide (HB.out.ds hbel1 HI.out.dN)
  have KT1 := hide (HB.out.kt hbel1 HK.out)
  have BL1 := hide hbel1
  have K1 := hide hB1
  clear hB1 hbel1 k1 k2 k3 k4 k5 k6 k7 k8
  obtain ⟨k1, k2, k3, k4, k5, k6, k7, k8⟩ := Cv.at C1.out HO.out HN.out
  rw [HA.out.em] at k1
  rw [HA.out.en] at k2
  rw [HA.out.ei] at k4
  go_wp2_with (go_at_call 33; refine (rinc_any g mb c.ax c.lx c.cx c.X i m c.ao c.lo c.co c.O _ _ HI.out.hx HA.out.him (Nat.le_trans HA.out.hmn HA.out.hn) HA.out.lo X1.out O1.out K1.out KT1.out).mono ?_)
  rintro r w2 ⟨⟨v2, rfl⟩, hB2, hbel2⟩
  have C2 := hide (K1.out.blk hbel2 C1.out (by decide))
  have Y2 := hide (K1.out.sl hbel2 Y1.out)
  have N2 := hide (K1.out.ds hbel2 N1.out)
  have KT2 := hide (K1.out.kt hbel2 KT1.out)
  have BL2 := hide (BL1.out.trans hbel2)
  have K2 := hide hB2
  clear hB2 hbel2 k1 k2 k3 k4 k5 k6 k7 k8
  obtain ⟨k1, k2, k3, k4, k5, k6, k7, k8⟩ := Cv.at C2.out HO.out HN.out
  rw [HA.out.em] at k1
  rw [HA.out.en] at k2
  rw [HA.out.ei] at k4
  go_wp2_with (go_at_call 33; refine (rinc_any g mb c.ay c.ly c.cy c.Y i n c.an c.ln c.cn c.N _ _ HI.out.hy (Nat.lt_of_lt_of_le HA.out.him HA.out.hmn) HA.out.hn HA.out.ln Y2.out N2.out K2.out KT2.out).mono ?_)
  rintro r w3 ⟨⟨v3, rfl⟩, hB3, hbel3⟩
  have K3 := hide hB3
  have BL3 := hide (BL2.out.trans hbel3)
  clear hB3 hbel3 k1 k2 k3 k4 k5 k6 k7 k8
  go_wp2
  go_end0
  exact ⟨rfl, K3.out, BL3.out⟩

end Go.Proofs.YtconeobaohmbnaaDoor

/-
  Extract.
-/
namespace Go.Proofs.YtconeobaohmbnaaDoor
open Go.RowKit
set_option linter.unusedVariables false

/-- What Extract tells: nothing, or two unlike strings of one digest. -/
structure Ext (w : World) (av bv : Value) (fd : Bool) : Prop where
  no : fd = false → av = .slice none 0 0 ∧ bv = .slice none 0 0
  yes : fd = true → ∃ a l c A b m d B, av = .slice a l c ∧ bv = .slice b m d ∧ Sl w a l c A ∧ Sl w b m d B ∧ A ≠ B ∧ dg bL 0 A = dg bL 0 B
theorem Ext.below {w w' : World} {av bv : Value} {fd : Bool} (h : Ext w av bv fd) (hb : Below w.heap.size w w') : Ext w' av bv fd :=
  ⟨h.no, fun hf => by
    obtain ⟨a, l, c, A, b, m, d, B, h1, h2, h3, h4, h5, h6⟩ := h.yes hf
    exact ⟨a, l, c, A, b, m, d, B, h1, h2, h3.below hb, h4.below hb, h5, h6⟩⟩
theorem Ext.none (w : World) : Ext w (.slice none 0 0) (.slice none 0 0) false := ⟨fun _ => ⟨rfl, rfl⟩, fun h => by cases h⟩
set_option maxRecDepth 100000 in
set_option maxHeartbeats 1000000 in
theorem ext_any (c : Cv) (w : World) (hi : c.In w) (hk : KT w) :
    Calls Tryd.prog 11 #[.agg c.cells.toArray] w fun r w' => ∃ av bv, r = .returned (.tuple #[av, bv, .bool (c.acc && decide (c.X ≠ c.Y))]) ∧ Ext w' av bv (c.acc && decide (c.X ≠ c.Y)) ∧ Below w.heap.size w w' := by
  have HI := hide hi
  have HK := hide hk
  have HO := hide hi.lo
  have HN := hide hi.ln
  have HLC := hide (Cv.length hi.lo hi.ln)
  clear hi hk
  by_cases hxy : c.X = c.Y
  · have hdc : decide (c.X = c.Y) = true := decide_eq_true hxy
    have HR : Hid ((c.acc && decide (c.X ≠ c.Y)) = false) := hide (by simp [hxy])
    rw [HR.out]
    go_enter Tryd.func11, Tryd.ntmps11
    go_wp2_with (refine step_box (cs := c.cells) rfl rfl ?_)
    intro y g1 hr1 hl1 hb1
    have G1 := hide hr1
    have BY := hide hb1
    have HIY := hide (HI.out.below hb1)
    have KY := hide (HK.out.below hb1 HK.out.lt)
    clear hr1 hb1
    obtain ⟨k1, k2, k3, k4, k5, k6, k7, k8⟩ := Cv.at G1.out HO.out HN.out
    go_wp2_with (go_at_call 29; refine (bytesEq_any _ _ _ c.X _ _ _ c.Y _ HIY.out.sx HIY.out.sy).mono ?_; rintro r w' ⟨rfl, rfl⟩; rw [hdc])
    refine bodyPost_ret (results_tmp3 rfl _ _ _) rfl ⟨_, _, rfl, Ext.none _, BY.out⟩
  · have hdc : decide (c.X = c.Y) = false := decide_eq_false hxy
    cases hac : c.acc with
    | false =>
      rw [Bool.false_and]
      go_enter Tryd.func11, Tryd.ntmps11
      go_wp2_with (refine step_box (cs := c.cells) rfl rfl ?_)
      intro y g1 hr1 hl1 hb1
      have G1 := hide hr1
      have BY := hide hb1
      have HIY := hide (HI.out.below hb1)
      have KY := hide (HK.out.below hb1 HK.out.lt)
      clear hr1 hb1
      obtain ⟨k1, k2, k3, k4, k5, k6, k7, k8⟩ := Cv.at G1.out HO.out HN.out
      go_wp2_with (first | (go_at_call 29; refine (bytesEq_any _ _ _ c.X _ _ _ c.Y _ HIY.out.sx HIY.out.sy).mono ?_; rintro r w' ⟨rfl, rfl⟩; rw [hdc]) | (refine step_load wCl rfl rfl G1.out _ HLC.out (by rw [List.drop_zero, List.take_of_length_le (by rw [HLC.out]; omega)]) ?_) | (go_at_call 8; refine (accepted_any c _ HIY.out KY.out).mono ?_))
      rintro r w2 ⟨rfl, hb2⟩
      rw [hac]
      go_wp2
      refine bodyPost_ret (results_tmp3 rfl _ _ _) rfl ⟨_, _, rfl, Ext.none _, BY.out.trans (hb2.mono BY.out.size)⟩
    | true =>
      have HR : Hid ((true && decide (c.X ≠ c.Y)) = true) := hide (by simp [hxy])
      rw [HR.out]
      obtain ⟨m, n, i, hA⟩ := Cv.accs hac
      have HA := hide hA
      clear hA
      go_enter Tryd.func11, Tryd.ntmps11
      go_wp2_with (refine step_box (cs := c.cells) rfl rfl ?_)
      intro y g1 hr1 hl1 hb1
      have G1 := hide hr1
      have BY := hide hb1
      have HIY := hide (HI.out.below hb1)
      have KY := hide (HK.out.below hb1 HK.out.lt)
      clear hr1 hb1
      obtain ⟨k1, k2, k3, k4, k5, k6, k7, k8⟩ := Cv.at G1.out HO.out HN.out
      go_wp2_with (first | (go_at_call 29; refine (bytesEq_any _ _ _ c.X _ _ _ c.Y _ HIY.out.sx HIY.out.sy).mono ?_; rintro r w' ⟨rfl, rfl⟩; rw [hdc]) | (refine step_load wCl rfl rfl G1.out _ HLC.out (by rw [List.drop_zero, List.take_of_length_le (by rw [HLC.out]; omega)]) ?_) | (go_at_call 8; refine (accepted_any c _ HIY.out KY.out).mono ?_))
      rintro r z ⟨rfl, hb2⟩
      rw [hac]
      have BZ := hide (BY.out.trans (hb2.mono BY.out.size))
      have GZ := hide (G1.out.on hb2)
      have HIZ := hide (HIY.out.below hb2)
      have KZ := hide (KY.out.below hb2 KY.out.lt)
      clear hb2 k1 k2 k3 k4 k5 k6 k7 k8
      go_wp2_with (go_at_call 30; refine (collE_any (.pointer (some ⟨g1, 0, none⟩)) (c.strs m n i) _ (fun y g mb hby hBk => exc1_any c m n i g1 g mb y HA.out (HIZ.out.below hby) (GZ.out.on hby) (KZ.out.below hby KZ.out.lt) hBk)).mono ?_)
      rintro r v ⟨av, bv, fd, rfl, hT, hbv⟩
      have hfd : fd = true := by
        cases fd with
        | true => rfl
        | false => exact absurd (HA.out.leaves HO.out HIZ.out.ds.hlen (hT.no rfl).2.2) hxy
      subst hfd
      have HT := hide hT
      clear hT
      go_wp2
      refine bodyPost_ret (results_tmp3 rfl _ _ _) rfl ⟨_, _, rfl, ⟨(fun h => by cases h), HT.out.yes⟩, BZ.out.trans (hbv.mono BZ.out.size)⟩

end Go.Proofs.YtconeobaohmbnaaDoor

/-
  A region that draws, by what holds of each slot once it is filled: no order is walked; the last operation waits for all others.
-/
namespace Go.Proofs.YtconeobaohmbnaaDoor
open Go.RowKit
set_option linter.unusedVariables false

/-- Only these slots were filled. -/
structure Frm (a0 a : Act) (slots : List Nat) : Prop where
  size : a.tmps.size = a0.tmps.size
  defers : a.defers = a0.defers
  keep : ∀ k, k ∉ slots → a.tmps.getD k undef = a0.tmps.getD k undef
theorem Frm.refl (a : Act) (slots : List Nat) : Frm a a slots := ⟨rfl, rfl, fun _ _ => rfl⟩
theorem Frm.put {a0 a : Act} {slots : List Nat} (h : Frm a0 a slots) {s : Nat} (hs : s ∈ slots) (v : Value) : Frm a0 (a.put (some s) v) slots := by
  refine ⟨by simp [Act.put, h.size], by simp [Act.put, h.defers], fun k hk => ?_⟩
  have hne : s ≠ k := fun e => hk (e ▸ hs)
  rw [← h.keep k hk]
  simp [Act.put, Array.getD_eq_getD_getElem?, hne]
theorem put_same {a : Act} {s : Nat} (h : s < a.tmps.size) (v : Value) : (a.put (some s) v).tmps.getD s undef = v := by
  simp [Act.put, Array.getD_eq_getD_getElem?, h]
theorem put_other {a : Act} {s k : Nat} (h : s ≠ k) (v : Value) : (a.put (some s) v).tmps.getD k undef = a.tmps.getD k undef := by
  simp [Act.put, Array.getD_eq_getD_getElem?, h]
theorem count_set : ∀ (l : List Bool) (i : Nat), l[i]? = some false → (l.set i true).countP (fun b => !b) + 1 = l.countP (fun b => !b)
  | [], _, h => by simp at h
  | b :: l, 0, h => by
    simp at h
    subst h
    simp
  | b :: l, i + 1, h => by
    have := count_set l i (by simpa using h)
    simp only [List.set_cons_succ, List.countP_cons]
    omega

/-- Of what is older than B nothing has turned; else no cell has, and no block but of bytes (a mark may be laid on these). -/
structure Mk (B : Nat) (w w' : World) : Prop where
  low : Below B w w'
  cell : ∀ x v, w.cell? x = some v → w'.cell? x = some v
  blk : ∀ k t cs, t ≠ 5 → Blk w k t cs → Blk w' k t cs
  ub : ∀ (k : Nat) (C : Array Value) (fr : Nat × Nat), w.heap[k]? = some (Obj.cells C 5 fr) → ∃ fr', w'.heap[k]? = some (Obj.cells C 5 fr')
theorem Mk.refl (B : Nat) (w : World) : Mk B w w := ⟨Below.refl _ _, fun _ _ h => h, fun _ _ _ _ h => h, fun _ _ _ h => ⟨_, h⟩⟩
theorem Mk.trans {B : Nat} {u v w : World} (h : Mk B u v) (k : Mk B v w) : Mk B u w := ⟨h.low.trans k.low, fun x y hx => k.cell x y (h.cell x y hx), fun i t cs ht hb => k.blk i t cs ht (h.blk i t cs ht hb), fun i C fr hi => by
    obtain ⟨fr', h'⟩ := h.ub i C fr hi
    exact k.ub i C fr' h'⟩
theorem Mk.of {B : Nat} {w w' : World} (h : Below w.heap.size w w') (hB : B ≤ w.heap.size) : Mk B w w' :=
  ⟨h.mono hB, fun x v hx => by rw [h.cell (World.block_lt_of_cell? w _ hx)]; exact hx, fun k t cs _ hk => hk.below h hk.lt, fun k C fr hk => ⟨fr, by rw [h.block k (Array.getElem?_eq_some_iff.1 hk).1]; exact hk⟩⟩
theorem Mk.size {B : Nat} {w w' : World} (h : Mk B w w') : w.heap.size ≤ w'.heap.size := h.low.size
theorem Sl.mk' {B : Nat} {w w' : World} {a : Option Addr} {l c : Nat} {xs : List Int} (h : Sl w a l c xs) (hm : Mk B w w') : Sl w' a l c xs := by
  obtain ⟨h1, h2, h3, h4, h5, h6, h7⟩ := h
  refine ⟨h1, h2, h3, h4, h5, h6, fun h0 => ?_⟩
  obtain ⟨b, o, e, hc⟩ := h7 h0
  exact ⟨b, o, e, fun i hi => hm.cell _ _ (hc i hi)⟩

section
variable {P : Program} {ops : Array Oper} {Q : Exit → Act → World → Prop} {md : Region.Mode}
theorem wpOp_of {i : Nat} {o : Oper} {K : Act → World → Prop} {a : Act} {w : World} (hi : ops[i]? = some o) (hg : o.guard = none) (h : Oper.wp P o a w K Q) : wpOp P ops Q i K a w := by
  have hw : Region.wanted o (yielded ops a.tmps) = true := by simp [Region.wanted, hg]
  unfold Go.wpOp
  simp only [hi, hw, if_true]
  exact .inl h
theorem listed_of_waits {i j : Nat} {listed : Array Bool} (hi : i ∈ Region.ready md ops listed) (hw : waits md ops i j = true) : listed.getD j true = true := by
  obtain ⟨_, o, ho, hall⟩ := mem_ready.1 hi
  unfold waits at hw
  rw [ho] at hw
  simp only [Array.any_eq_true', Bool.and_eq_true, beq_iff_eq] at hw
  obtain ⟨e, he, hb, hon⟩ := hw
  have h1 := hall e he hb
  rw [hon] at h1
  rcases Nat.lt_or_ge j listed.size with h' | h'
  · simp [h'] at h1 ⊢; exact h1
  · simp [h']
/-- All edges that bind lead back. -/
def backB (md : Region.Mode) (ops : Array Oper) : Bool := (List.range ops.size).all fun i => match ops[i]? with | some o => o.after.all fun e => !Region.binds md e || decide (e.on < i) | none => true
theorem back_of (h : backB md ops = true) {i : Nat} {o : Oper} (ho : ops[i]? = some o) {e : Edge} (he : e ∈ o.after) (hb : Region.binds md e = true) : e.on < i := by
  unfold backB at h
  have hi : i < ops.size := (Array.getElem?_eq_some_iff.1 ho).1
  have h1 := List.all_eq_true.1 h i (List.mem_range.2 hi)
  rw [ho] at h1
  have h2 := (Array.all_eq_true'.1 h1) e he
  rw [hb] at h2
  simpa using h2
theorem least {listed : Array Bool} : ∀ (k : Nat), listed.getD k true = false → ∃ i, listed.getD i true = false ∧ ∀ j, j < i → listed.getD j true = true := by
  intro k
  induction k using Nat.strongRecOn with
  | ind k ih =>
    intro hk
    by_cases h : ∃ j, j < k ∧ listed.getD j true = false
    · obtain ⟨j, hj, hf⟩ := h
      exact ih j hj hf
    · refine ⟨k, hk, fun j hj => ?_⟩
      cases hf : listed.getD j true with
      | true => rfl
      | false => exact absurd ⟨j, hj, hf⟩ h
theorem getD_lt {listed : Array Bool} {i : Nat} (h : listed.getD i true = false) : i < listed.size := by
  rcases Nat.lt_or_ge i listed.size with h' | h'
  · exact h'
  · simp [h'] at h
theorem wpAny_end {listed : Array Bool} {a : Act} {w : World} (hr : Region.ready md ops listed = []) (h : Q .normal a w) : ∀ fuel, wpAny P md ops Q fuel listed a w
  | 0 => ⟨hr, h⟩
  | _ + 1 => ⟨fun _ => h, by rw [hr]; simp⟩
theorem wpAny_inv {n : Nat} {slot : Nat → Nat} {slots : List Nat} {Val : Nat → Value → World → Prop} {z : World} {a0 : Act} {R : World → World → Prop}
    (hback : backB md ops = true) (hRt : ∀ u v w, R u v → R v w → R u w) (hmono : ∀ j v w w', Val j v w → R w w' → Val j v w') (hlw : ∀ j, j < n → waits md ops n j = true) (hsl : ∀ i, i < n → slot i ∈ slots) (hsz : ∀ i, i < n → slot i < a0.tmps.size) (hdis : ∀ i j, i < n → j < n → slot i = slot j → i = j)
    (hstep : ∀ i, i < n → ∀ a w, Frm a0 a slots → R z w → (∀ j, j < n → waits md ops i j = true → Val j (a.tmps.getD (slot j) undef) w) → wpOp P ops Q i (fun a' w' => ∃ v, a' = a.put (some (slot i)) v ∧ Val i v w' ∧ R w w') a w)
    (hlast : ∀ a w, Frm a0 a slots → R z w → (∀ j, j < n → Val j (a.tmps.getD (slot j) undef) w) → wpOp P ops Q n (fun a' w' => Q .normal a' w') a w) (hops : ops.size = n + 1) :
    ∀ (fuel : Nat) (listed : Array Bool) (a : Act) (w : World), listed.toList.countP (fun b => !b) ≤ fuel → listed.size = n + 1 → listed.getD n true = false → Frm a0 a slots → R z w → (∀ j, j < n → listed.getD j true = true → Val j (a.tmps.getD (slot j) undef) w) →
      wpAny P md ops Q fuel listed a w := by
  intro fuel
  induction fuel with
  | zero =>
    intro listed a w hc hs hn _ _ _
    exfalso
    have hlt : n < listed.size := by omega
    have h1 : listed.toList[n]? = some false := by
      rw [Array.getElem?_toList, Array.getElem?_eq_getElem hlt]
      simpa [hlt] using hn
    have := count_set _ _ h1
    omega
  | succ fuel ih =>
    intro listed a w hc hs hn hF hB hV
    have hlt : n < listed.size := by omega
    refine ⟨fun hr => ?_, fun i hi => ?_⟩
    · exfalso
      obtain ⟨i, h1, h2⟩ := least n hn
      have hil := getD_lt h1
      have hmem : i ∈ Region.ready md ops listed := by
        refine mem_ready.2 ⟨h1, ops[i]'(by omega), Array.getElem?_eq_getElem (by omega), fun e he hb => ?_⟩
        have hlt' := back_of hback (Array.getElem?_eq_getElem (by omega)) he hb
        have h3 := h2 e.on hlt'
        have h4 : e.on < listed.size := by omega
        simp [h4] at h3 ⊢
        exact h3
      rw [hr] at hmem
      cases hmem
    · have hiu := (mem_ready.1 hi).1
      have hil := getD_lt hiu
      have hcnt : (listed.setIfInBounds i true).toList.countP (fun b => !b) ≤ fuel := by
        have h1 : listed.toList[i]? = some false := by
          rw [Array.getElem?_toList, Array.getElem?_eq_getElem hil]
          simpa [hil] using hiu
        have := count_set _ _ h1
        rw [Array.toList_setIfInBounds]
        omega
      by_cases hin : i = n
      · subst hin
        have hall : ∀ j, j < i → listed.getD j true = true := fun j hj => listed_of_waits hi (hlw j hj)
        have hr : Region.ready md ops (listed.setIfInBounds i true) = [] := by
          refine List.eq_nil_iff_forall_not_mem.2 fun j hj => ?_
          have h1 := (mem_ready.1 hj).1
          have h2 := getD_lt h1
          rw [Array.size_setIfInBounds] at h2
          by_cases hji : i = j
          · subst hji
            simp [h2] at h1
          · rw [getD_set_ne true hji, hall j (by omega)] at h1
            cases h1
        exact wpOp_mono (fun a' w' h => wpAny_end hr h fuel) (hlast a w hF hB (fun j hj => hV j hj (hall j hj)))
      · have hlt' : i < n := by omega
        refine wpOp_mono (fun a' w' h => ?_) (hstep i hlt' a w hF hB (fun j hj hw => hV j hj (listed_of_waits hi hw)))
        obtain ⟨v, rfl, hv, hb⟩ := h
        refine ih _ _ _ hcnt (by rw [Array.size_setIfInBounds]; exact hs) (by rw [getD_set_ne true hin]; exact hn) (hF.put (hsl i hlt') v) (hRt _ _ _ hB hb) (fun j hj hl => ?_)
        by_cases hji : i = j
        · subst hji
          rw [put_same (by rw [hF.size]; exact hsz i hlt')]
          exact hv
        · rw [put_other (fun e => hji (hdis i j hlt' hj e))]
          rw [getD_set_ne true hji] at hl
          exact hmono j _ _ _ (hV j hj hl) hb
theorem wp_region_inv {id n : Nat} {slot : Nat → Nat} {slots : List Nat} {Val : Nat → Value → World → Prop} {z : World} {a0 : Act} {R : World → World → Prop} (hm : P.follows .mixedOrders = true) (hR0 : R z z.drew)
    (hback : backB .any ops = true) (hRt : ∀ u v w, R u v → R v w → R u w) (hmono : ∀ j v w w', Val j v w → R w w' → Val j v w') (hlw : (List.range n).all (fun j => waits .any ops n j) = true) (hsl : (List.range n).all (fun i => decide (slot i ∈ slots)) = true) (hsz : (List.range n).all (fun i => decide (slot i < a0.tmps.size)) = true) (hdis : (List.range n).all (fun i => (List.range n).all fun j => decide (slot i = slot j → i = j)) = true)
    (hstep : ∀ i, i < n → ∀ a w, Frm a0 a slots → R z w → (∀ j, j < n → waits .any ops i j = true → Val j (a.tmps.getD (slot j) undef) w) → wpOp P ops Q i (fun a' w' => ∃ v, a' = a.put (some (slot i)) v ∧ Val i v w' ∧ R w w') a w)
    (hlast : ∀ a w, Frm a0 a slots → R z w → (∀ j, j < n → Val j (a.tmps.getD (slot j) undef) w) → wpOp P ops Q n (fun a' w' => Q .normal a' w') a w) (hops : ops.size = n + 1) :
    (Code.region id ops true).wp P Q a0 z := by
  refine wp_region_any hm ?_
  refine wpAny_inv hback hRt hmono (fun j hj => List.all_eq_true.1 hlw j (List.mem_range.2 hj)) (fun i hi => by simpa using List.all_eq_true.1 hsl i (List.mem_range.2 hi)) (fun i hi => by simpa using List.all_eq_true.1 hsz i (List.mem_range.2 hi)) (fun i j hi hj e => ?_) hstep hlast hops ops.size (Array.replicate ops.size false) a0 _ ?_ (by simp [hops]) (by simp [hops]) (Frm.refl _ _) hR0 (fun j hj hl => ?_)
  · have h1 := List.all_eq_true.1 hdis i (List.mem_range.2 hi)
    have h2 := List.all_eq_true.1 h1 j (List.mem_range.2 hj)
    exact (of_decide_eq_true h2) e
  · refine Nat.le_trans (List.countP_le_length ..) ?_
    simp
  · have : j < ops.size := by omega
    simp [this] at hl
end

end Go.Proofs.YtconeobaohmbnaaDoor

/-
  Claims built; the law's honest: a tree of two leaves makes a claim that is accepted.
-/
namespace Go.Proofs.YtconeobaohmbnaaDoor
open Go.RowKit
set_option linter.unusedVariables false

theorem spl_one (cs : List Value) (v : Value) (k : Nat) (h : k < cs.length) : spl cs [v] k = cs.set k v := by
  unfold spl
  rw [List.set_eq_take_append_cons_drop, if_pos h]
  simp
theorem rCl : Rec 27 c0v.cells [(0, 1), (1, 1), (2, 32), (34, 32), (66, 1), (67, 1), (68, 1), (69, 1), (70, 1), (71, 1)] := fun parts => by kernel_rfl
theorem Cv.upM (c : Cv) (m : Int) : spl c.cells [.int .i64 m] 0 = ({ c with m := m } : Cv).cells := rfl
theorem Cv.upN (c : Cv) (n : Int) : spl c.cells [.int .i64 n] 1 = ({ c with n := n } : Cv).cells := rfl
theorem Cv.len_le {c : Cv} (h1 : c.o.length = 32) (h2 : c.nw.length = 32) {k : Nat} (hk : k ≤ 72) : k ≤ c.cells.length := by rw [Cv.length h1 h2]; exact hk
theorem spl3 (A B C B' : List Value) (h : B.length = B'.length) : spl (A ++ (B ++ C)) B' A.length = A ++ (B' ++ C) := by
  unfold spl
  rw [List.take_left, ← h, ← List.append_assoc A B C, show A.length + B.length = (A ++ B).length by simp, List.drop_left, List.append_assoc]
theorem Cv.upO (c : Cv) (o : List Int) (h1 : c.o.length = 32) (h : o.length = 32) : spl c.cells (u8s o) 2 = ({ c with o := o } : Cv).cells :=
  spl3 [Value.int .i64 c.m, .int .i64 c.n] (u8s c.o) _ (u8s o) (by rw [u8s_length, u8s_length, h1, h])
theorem Cv.upW (c : Cv) (o : List Int) (h1 : c.o.length = 32) (h2 : c.nw.length = 32) (h : o.length = 32) : spl c.cells (u8s o) 34 = ({ c with nw := o } : Cv).cells := by
  have e := spl3 ([Value.int .i64 c.m, .int .i64 c.n] ++ u8s c.o) (u8s c.nw) [Value.slice c.aq c.ls c.cs, .int .i64 c.i, .slice c.ax c.lx c.cx, .slice c.ay c.ly c.cy, .slice c.ao c.lo c.co, .slice c.an c.ln c.cn] (u8s o) (by rw [u8s_length, u8s_length, h2, h])
  rw [List.append_assoc, List.append_assoc, show ([Value.int .i64 c.m, .int .i64 c.n] ++ u8s c.o).length = 34 by simp [u8s_length, h1]] at e
  exact e
theorem Cv.upT (c : Cv) (h1 : c.o.length = 32) (h2 : c.nw.length = 32) (k : Nat) (hk : k < 6) (v : Value) : spl c.cells [v] (66 + k) = [.int .i64 c.m, .int .i64 c.n] ++ (u8s c.o ++ (u8s c.nw ++ [Value.slice c.aq c.ls c.cs, .int .i64 c.i, .slice c.ax c.lx c.cx, .slice c.ay c.ly c.cy, .slice c.ao c.lo c.co, .slice c.an c.ln c.cn].set k v)) := by
  rw [spl_one _ _ _ (by rw [Cv.length h1 h2]; omega), Cv.setTail c h1 h2 k v]
theorem Cv.upS (c : Cv) (h1 : c.o.length = 32) (h2 : c.nw.length = 32) (a : Option Addr) (l d : Nat) (S : List Int) : spl c.cells [.slice a l d] 66 = ({ c with aq := a, ls := l, cs := d, S := S } : Cv).cells := Cv.upT c h1 h2 0 (by omega) _
theorem Cv.upI (c : Cv) (h1 : c.o.length = 32) (h2 : c.nw.length = 32) (i : Int) : spl c.cells [.int .i64 i] 67 = ({ c with i := i } : Cv).cells := Cv.upT c h1 h2 1 (by omega) _
theorem Cv.upX (c : Cv) (h1 : c.o.length = 32) (h2 : c.nw.length = 32) (a : Option Addr) (l d : Nat) (S : List Int) : spl c.cells [.slice a l d] 68 = ({ c with ax := a, lx := l, cx := d, X := S } : Cv).cells := Cv.upT c h1 h2 2 (by omega) _
theorem Cv.upY (c : Cv) (h1 : c.o.length = 32) (h2 : c.nw.length = 32) (a : Option Addr) (l d : Nat) (S : List Int) : spl c.cells [.slice a l d] 69 = ({ c with ay := a, ly := l, cy := d, Y := S } : Cv).cells := Cv.upT c h1 h2 3 (by omega) _
theorem Cv.upA (c : Cv) (h1 : c.o.length = 32) (h2 : c.nw.length = 32) (a : Option Addr) (l d : Nat) (S : List Int) : spl c.cells [.slice a l d] 70 = ({ c with ao := a, lo := l, co := d, O := S } : Cv).cells := Cv.upT c h1 h2 4 (by omega) _
theorem Cv.upB (c : Cv) (h1 : c.o.length = 32) (h2 : c.nw.length = 32) (a : Option Addr) (l d : Nat) (S : List Int) : spl c.cells [.slice a l d] 71 = ({ c with an := a, ln := l, cn := d, N := S } : Cv).cells := Cv.upT c h1 h2 5 (by omega) _
def clPl : List (Nat × Nat) := [(0, 1), (1, 1), (2, 32), (34, 32), (66, 1), (67, 1), (68, 1), (69, 1), (70, 1), (71, 1)]
/-- A field is filled. -/
abbrev clF (c : Cv) (parts : List (Nat × Value)) : Option (Array Value) := Instr.fill (fun i => clPl.toArray[i]?) c.cells.toArray parts
theorem clF.m (c : Cv) (h1 : c.o.length = 32) (h2 : c.nw.length = 32) (x : Int) (r : List (Nat × Value)) : clF c ((0, .int .i64 x) :: r) = clF { c with m := x } r := (fill_cons (vs := [.int .i64 x]) (off := 0) (size := 1) rfl rfl rfl (Cv.len_le h1 h2 (by omega))).trans (by rw [Cv.upM])
theorem clF.n (c : Cv) (h1 : c.o.length = 32) (h2 : c.nw.length = 32) (x : Int) (r : List (Nat × Value)) : clF c ((1, .int .i64 x) :: r) = clF { c with n := x } r := (fill_cons (vs := [.int .i64 x]) (off := 1) (size := 1) rfl rfl rfl (Cv.len_le h1 h2 (by omega))).trans (by rw [Cv.upN])
theorem clF.o (c : Cv) (h1 : c.o.length = 32) (h2 : c.nw.length = 32) (x : List Int) (h : x.length = 32) (r : List (Nat × Value)) : clF c ((2, .agg (u8s x).toArray) :: r) = clF { c with o := x } r := (fill_cons (vs := u8s x) (off := 2) (size := 32) rfl rfl (by rw [u8s_length, h]) (Cv.len_le h1 h2 (by omega))).trans (by rw [Cv.upO c x h1 h])
theorem clF.w (c : Cv) (h1 : c.o.length = 32) (h2 : c.nw.length = 32) (x : List Int) (h : x.length = 32) (r : List (Nat × Value)) : clF c ((3, .agg (u8s x).toArray) :: r) = clF { c with nw := x } r := (fill_cons (vs := u8s x) (off := 34) (size := 32) rfl rfl (by rw [u8s_length, h]) (Cv.len_le h1 h2 (by omega))).trans (by rw [Cv.upW c x h1 h2 h])
theorem clF.s (c : Cv) (h1 : c.o.length = 32) (h2 : c.nw.length = 32) (a : Option Addr) (l d : Nat) (S : List Int) (r : List (Nat × Value)) : clF c ((4, .slice a l d) :: r) = clF { c with aq := a, ls := l, cs := d, S := S } r := (fill_cons (vs := [.slice a l d]) (off := 66) (size := 1) rfl rfl rfl (Cv.len_le h1 h2 (by omega))).trans (by rw [Cv.upS c h1 h2 a l d S])
theorem clF.i (c : Cv) (h1 : c.o.length = 32) (h2 : c.nw.length = 32) (x : Int) (r : List (Nat × Value)) : clF c ((5, .int .i64 x) :: r) = clF { c with i := x } r := (fill_cons (vs := [.int .i64 x]) (off := 67) (size := 1) rfl rfl rfl (Cv.len_le h1 h2 (by omega))).trans (by rw [Cv.upI c h1 h2])
theorem clF.x (c : Cv) (h1 : c.o.length = 32) (h2 : c.nw.length = 32) (a : Option Addr) (l d : Nat) (S : List Int) (r : List (Nat × Value)) : clF c ((6, .slice a l d) :: r) = clF { c with ax := a, lx := l, cx := d, X := S } r := (fill_cons (vs := [.slice a l d]) (off := 68) (size := 1) rfl rfl rfl (Cv.len_le h1 h2 (by omega))).trans (by rw [Cv.upX c h1 h2 a l d S])
theorem clF.y (c : Cv) (h1 : c.o.length = 32) (h2 : c.nw.length = 32) (a : Option Addr) (l d : Nat) (S : List Int) (r : List (Nat × Value)) : clF c ((7, .slice a l d) :: r) = clF { c with ay := a, ly := l, cy := d, Y := S } r := (fill_cons (vs := [.slice a l d]) (off := 69) (size := 1) rfl rfl rfl (Cv.len_le h1 h2 (by omega))).trans (by rw [Cv.upY c h1 h2 a l d S])
theorem clF.a (c : Cv) (h1 : c.o.length = 32) (h2 : c.nw.length = 32) (a : Option Addr) (l d : Nat) (S : List Int) (r : List (Nat × Value)) : clF c ((8, .slice a l d) :: r) = clF { c with ao := a, lo := l, co := d, O := S } r := (fill_cons (vs := [.slice a l d]) (off := 70) (size := 1) rfl rfl rfl (Cv.len_le h1 h2 (by omega))).trans (by rw [Cv.upA c h1 h2 a l d S])
theorem clF.b (c : Cv) (h1 : c.o.length = 32) (h2 : c.nw.length = 32) (a : Option Addr) (l d : Nat) (S : List Int) (r : List (Nat × Value)) : clF c ((9, .slice a l d) :: r) = clF { c with an := a, ln := l, cn := d, N := S } r := (fill_cons (vs := [.slice a l d]) (off := 71) (size := 1) rfl rfl rfl (Cv.len_le h1 h2 (by omega))).trans (by rw [Cv.upB c h1 h2 a l d S])
theorem build_cl {w : World} {parts : Array (Nat × Value)} {c : Cv} (h : clF c0v parts.toList = some c.cells.toArray) : (Instr.build 27 parts).run Tryd.prog w = .ok (.agg c.cells.toArray) w :=
  run_build w _ _ _ ((rCl _).trans h)
theorem c0o : c0v.o.length = 32 := by simp [c0v, zer_length]
theorem c0n : c0v.nw.length = 32 := by simp [c0v, zer_length]
theorem conE_is {o nw xs : List Int} {m n l : Nat} (hm : 1 ≤ m) (hmn : m ≤ n) (hn : n ≤ 281474976710656) (hl : l = (hvM m 0 n).length + ptM m 0 n)
    (h1 : fo (hvM m 0 n) (xs.drop (32 * ptM m 0 n)) (st0 (ptM m 0 n) o xs) (hvM m 0 n).length = o) (h2 : fu (hvM m 0 n) (xs.drop (32 * ptM m 0 n)) (st0 (ptM m 0 n) o xs) (hvM m 0 n).length = nw) : conE o nw (m : Int) (n : Int) l xs = 0 := by
  unfold conE
  rw [if_neg (by omega), Int.toNat_natCast, Int.toNat_natCast, if_pos hl, if_pos ⟨h1, h2⟩]
theorem incE_is {leaf xs root : List Int} {i n l : Nat} (hi : i < n) (hn : n ≤ 281474976710656) (hl : l = (hvL i 0 n).length) : incE leaf (i : Int) (n : Int) l xs root = if fu (hvL i 0 n) xs leaf l = root then 0 else 71 := by
  unfold incE
  rw [if_neg (by omega), Int.toNat_natCast, Int.toNat_natCast, if_pos hl]
/-- The claim of honest. -/
def hcl (dx dn dy : List Int) (g16 g18 g20 g22 : Nat) (y : Int) : Cv := ⟨1, 2, dx, dn, 0, some ⟨g16, 0, none⟩, 1, 1, dy, some ⟨g18, 0, none⟩, 1, 1, [120], some ⟨g20, 0, none⟩, 1, 1, [y], none, 0, 0, [], some ⟨g22, 0, none⟩, 1, 1, dy⟩
set_option maxRecDepth 100000 in
theorem build_hcl (dx dn dy : List Int) (hx : dx.length = 32) (hn : dn.length = 32) (g16 g18 g20 g22 : Nat) (w : World) : (Instr.build 27 #[(0, .int .i64 1), (1, .int .i64 2), (2, .agg (u8s dx).toArray), (3, .agg (u8s dn).toArray), (4, .slice (some ⟨g16, 0, none⟩) 1 1), (6, .slice (some ⟨g18, 0, none⟩) 1 1), (7, .slice (some ⟨g20, 0, none⟩) 1 1), (9, .slice (some ⟨g22, 0, none⟩) 1 1)]).run Tryd.prog w = .ok (.agg (hcl dx dn dy g16 g18 g20 g22 120).cells.toArray) w := by
  refine build_cl (c := hcl dx dn dy g16 g18 g20 g22 120) ?_
  refine (clF.m c0v c0o c0n _ _).trans ?_
  refine (clF.n _ (by exact c0o) (by exact c0n) _ _).trans ?_
  refine (clF.o _ (by exact c0o) (by exact c0n) _ hx _).trans ?_
  refine (clF.w _ (by exact hx) (by exact c0n) _ hn _).trans ?_
  refine (clF.s _ (by exact hx) (by exact hn) _ _ _ dy _).trans ?_
  refine (clF.x _ (by exact hx) (by exact hn) _ _ _ [120] _).trans ?_
  refine (clF.y _ (by exact hx) (by exact hn) _ _ _ [120] _).trans ?_
  refine (clF.b _ (by exact hx) (by exact hn) _ _ _ dy _).trans ?_
  rfl
theorem hcl_in {w : World} {dx dn dy : List Int} (hx : dx.length = 32) (bx : isB dx) (hn : dn.length = 32) (bn : isB dn) {g16 g18 g20 g22 : Nat} {y : Int} (h1 : Ds w (some ⟨g16, 0, none⟩) 1 1 dy) (h2 : Sl w (some ⟨g18, 0, none⟩) 1 1 [120]) (h3 : Sl w (some ⟨g20, 0, none⟩) 1 1 [y]) (h4 : Ds w (some ⟨g22, 0, none⟩) 1 1 dy) : (hcl dx dn dy g16 g18 g20 g22 y).In w :=
  ⟨hx, bx, hn, bn, h1, h2, (show (1 : Nat) ≤ 140737488354304 by omega), h3, (show (1 : Nat) ≤ 140737488354304 by omega), (⟨Nat.le_refl _, Nat.zero_le _, fun _ => rfl, Sl.none0 _⟩ : Ds w none 0 0 []), h4⟩
theorem hv01 : hvL 0 0 1 = [] := hvL_one 0 0
theorem hf2 : hf 2 = 1 := by decide +kernel
theorem hv02 : hvL 0 0 2 = [0] := by rw [hvL_lo (by omega) (by omega) (by omega) (by rw [hf2]; omega), hf2, hv01]; rfl
theorem hm12 : hvM 1 0 2 = [0] ∧ ptM 1 0 2 = 0 := by
  obtain ⟨e1, e2⟩ := hvM_lo (m := 1) (b := 0) (n := 2) (by omega) (by omega) (by omega) (by omega) (by omega) (by rw [hf2]; omega)
  rw [hf2] at e1 e2
  obtain ⟨f1, f2⟩ := hvM_end (m := 1) (b := 0) (n := 1) rfl
  rw [f1] at e1
  rw [f2] at e2
  exact ⟨e1, e2⟩
theorem dat_self {d : List Int} (h : d.length = 32) : dat d 0 = d := by unfold dat; rw [Nat.mul_zero, List.drop_zero, List.take_of_length_le (by omega)]
theorem con_h {dx dy : List Int} (hy : dy.length = 32) : conE dx (nd dx dy) 1 2 1 dy = 0 := by
  refine conE_is (m := 1) (n := 2) (by omega) (by omega) (by omega) (by rw [hm12.1, hm12.2]; rfl) ?_ ?_
  · rw [hm12.1, hm12.2]; rfl
  · rw [hm12.1, hm12.2]
    show jn 0 dx (dat (dy.drop (32 * 0)) 0) = _
    rw [Nat.mul_zero, List.drop_zero, dat_self hy]
    rfl
theorem inc_1 {dx : List Int} : incE dx 0 1 0 [] dx = 0 := by
  refine (incE_is (i := 0) (n := 1) (by omega) (by omega) (by rw [hv01]; rfl)).trans ?_
  rw [hv01]
  exact if_pos rfl
theorem inc_2 {d dy root : List Int} (hy : dy.length = 32) : incE d 0 2 1 dy root = if nd d dy = root then 0 else 71 := by
  refine (incE_is (i := 0) (n := 2) (by omega) (by omega) (by rw [hv02]; rfl)).trans ?_
  rw [hv02]
  show (if jn 0 d (dat dy 0) = root then _ else _) = _
  rw [dat_self hy]
  rfl
/-- It is accepted; with another leaf it is not, as their digests are other ones. -/
theorem hcl_acc (dx dn dy : List Int) (hdx : dx = lf [120]) (hy : dy.length = 32) (hdn : dn = nd dx dy) (g16 g18 g20 g22 : Nat) (y : Int) : (hcl dx dn dy g16 g18 g20 g22 y).acc = decide (nd (lf [y]) dy = dn) := by
  have e1 : (hcl dx dn dy g16 g18 g20 g22 y).e1 = 0 := by rw [hdn]; exact con_h hy
  have e2 : (hcl dx dn dy g16 g18 g20 g22 y).b2 = true := by
    show (incE (lf [120]) 0 1 0 [] dx == 0) = true
    rw [hdx, inc_1]
    rfl
  have e3 : (hcl dx dn dy g16 g18 g20 g22 y).b3 = decide (nd (lf [y]) dy = dn) := by
    show (incE (lf [y]) 0 2 1 dy dn == 0) = _
    rw [inc_2 hy]
    by_cases h : nd (lf [y]) dy = dn
    · rw [if_pos h]; simp [h]
    · rw [if_neg h]; simp [h]
  unfold Cv.acc
  rw [e1, e2, e3]
  rfl
theorem nd_apart : nd (lf [122]) (lf [121]) ≠ nd (lf [120]) (lf [121]) := by decide +kernel

end Go.Proofs.YtconeobaohmbnaaDoor

/-
  The law's honest.
-/
namespace Go.Proofs.YtconeobaohmbnaaDoor
open Go.RowKit
set_option linter.unusedVariables false

theorem Ds.mk' {B : Nat} {w w' : World} {a : Option Addr} {l c : Nat} {xs : List Int} (h : Ds w a l c xs) (hm : Mk B w w') : Ds w' a l c xs := ⟨h.hcap, h.hmax, h.hnil, h.sl.mk' hm⟩
theorem Cv.In.mk' {c : Cv} {B : Nat} {w w' : World} (h : c.In w) (hm : Mk B w w') : c.In w' := ⟨h.lo, h.bo, h.ln, h.bn, h.ds.mk' hm, h.sx.mk' hm, h.hx, h.sy.mk' hm, h.hy, h.dO.mk' hm, h.dN.mk' hm⟩
theorem freeze_cells (w : World) (g : Nat) (C : Array Value) (e : TypeId) (fr : Nat × Nat) (k : Nat) (h : w.heap[g]? = some (.cells C e fr)) : ∃ w', w.freeze ⟨g, k, none⟩ 1 = w' ∧ (∀ i, i ≠ g → w'.heap[i]? = w.heap[i]?) ∧ (∃ fr', w'.heap[g]? = some (.cells C e fr')) ∧ w'.heap.size = w.heap.size ∧ w'.os = w.os ∧ w'.tape = w.tape ∧ w'.output = w.output := by
  refine ⟨_, rfl, fun i hi => ?_, ?_, ?_, ?_, ?_, ?_⟩
  all_goals unfold World.freeze
  all_goals rw [if_neg (by decide)]
  · simp [Array.getElem?_modify, Ne.symm hi]
  · simp [Array.getElem?_modify, h]
  · simp
/-- A conversion of bytes to their own type lays a mark. -/
theorem conv_mark (w : World) (g n c B : Nat) (C : Array Value) (fr0 : Nat × Nat) (hg : w.heap[g]? = some (.cells C 5 fr0)) (hB : B ≤ g) : ∃ w', (convert 25 25 (.slice (some ⟨g, 0, none⟩) n c)).run Tryd.prog w = .ok (.slice (some ⟨g, 0, none⟩) n c) w' ∧ Mk B w w' := by
  have hsh : w.shape? g = some (5, C.size) := by
    unfold World.shape?
    rw [hg]
  obtain ⟨w', hw, h1, ⟨fr, h2⟩, h3, h4, h5, h6⟩ := freeze_cells w g C 5 fr0 C.size hg
  refine ⟨w', ?_, ⟨h4, h5, h6, Nat.le_of_eq h3.symm, fun k hk => h1 k (by omega)⟩, fun x v hx => ?_, fun k t cs ht hk => ?_, fun k D fr' hk => ?_⟩
  · simp [convert, run_underlying undBs, run_underlying undB, markStringish, hsh]
    exact hw
  · by_cases e : x.block = g
    · rw [← hx]
      unfold World.cell?
      rw [e, h2, hg]
    · rw [← hx]
      exact World.cell?_of_block (h1 _ e)
  · have hne : k ≠ g := by
      rintro rfl
      unfold Blk at hk
      rw [hg] at hk
      simp at hk
      exact ht hk.2.1.symm
    unfold Blk
    rw [h1 k hne]
    exact hk
  · by_cases e : k = g
    · subst e
      rw [hg] at hk
      simp at hk
      exact ⟨fr, by rw [h2, hk.1]⟩
    · exact ⟨fr', by rw [h1 k e]; exact hk⟩
set_option maxRecDepth 100000 in
theorem wp_1u {dst : Option Tmp} {ty : TypeId} {pos : String} {aft : Array Edge} {gd : Option (Nat × Bool)} {a : Act} {w : World} {K : Act → World → Prop} {Q : Exit → Act → World → Prop} {x : Operand} {q : Int} (hq : 0 ≤ q ∧ q ≤ 255) (hx : a.eval x = .int .u8 q) (h : ∀ w1 g, Sl w1 (some ⟨g, 0, none⟩) 1 1 [q] → w.heap.size ≤ g → w1.heap[g]? = some (.cells #[.int .u8 q] 5 (0, 0)) → Below w.heap.size w w1 → K (a.put dst (.slice (some ⟨g, 0, none⟩) 1 1)) w1) :
    Oper.wp Tryd.prog ⟨dst, .buildSlice 25 1 #[(0, x)], ty, pos, aft, gd⟩ a w K Q := by
  refine wp_runV (.slice (some ⟨w.heap.size, 0, none⟩) 1 1) (w.alloc (.cells #[.int .u8 q] 5)) ?_ (h _ _ (one_slQ w q hq) (Nat.le_refl _) (heap_alloc_new w _) ((Below.refl _ _).alloc (Nat.le_refl _) _))
  unfold execOp
  simp only [List.map_toArray, List.map_cons, List.map_nil, hx]
  simp only [Sem.run_bind, build_1q, Result.andThen_ok, Sem.run_pure]
/-- What is in each slot of honest's second region, once it is filled. -/
def honV (dx dn dy : List Int) (z : World) : Nat → Value → World → Prop
  | 0, v, _ => v = .agg (u8s dx).toArray
  | 1, v, _ => v = .agg (u8s dx).toArray
  | 2, v, _ => v = .agg (u8s dy).toArray
  | 3, v, _ => v = .agg (u8s dn).toArray
  | 4, v, _ => v = .agg (u8s dy).toArray
  | 5, v, w => ∃ g, v = .slice (some ⟨g, 0, none⟩) 1 1 ∧ Ds w (some ⟨g, 0, none⟩) 1 1 dy
  | 6, v, w => ∃ g, v = .slice (some ⟨g, 0, none⟩) 1 1 ∧ Sl w (some ⟨g, 0, none⟩) 1 1 [120] ∧ z.heap.size ≤ g ∧ ∃ fr, w.heap[g]? = some (.cells #[.int .u8 120] 5 fr)
  | 7, v, w => ∃ g, v = .slice (some ⟨g, 0, none⟩) 1 1 ∧ Sl w (some ⟨g, 0, none⟩) 1 1 [120]
  | 8, v, w => ∃ g, v = .slice (some ⟨g, 0, none⟩) 1 1 ∧ Sl w (some ⟨g, 0, none⟩) 1 1 [120] ∧ z.heap.size ≤ g ∧ ∃ fr, w.heap[g]? = some (.cells #[.int .u8 120] 5 fr)
  | 9, v, w => ∃ g, v = .slice (some ⟨g, 0, none⟩) 1 1 ∧ Sl w (some ⟨g, 0, none⟩) 1 1 [120]
  | 10, v, _ => v = .agg (u8s dy).toArray
  | 11, v, w => ∃ g, v = .slice (some ⟨g, 0, none⟩) 1 1 ∧ Ds w (some ⟨g, 0, none⟩) 1 1 dy
  | 12, v, w => ∃ g16 g18 g20 g22, v = .agg (hcl dx dn dy g16 g18 g20 g22 120).cells.toArray ∧ (hcl dx dn dy g16 g18 g20 g22 120).In w
  | 13, v, w => ∃ g, v = .pointer (some ⟨g, 0, none⟩) ∧ Blk w g 27 c0v.cells ∧ z.heap.size ≤ g
  | _, _, _ => True
theorem honV_mono (dx dn dy : List Int) (z : World) : ∀ j v w w', honV dx dn dy z j v w → Mk z.heap.size w w' → honV dx dn dy z j v w'
  | 0, _, _, _, h, _ | 1, _, _, _, h, _ | 2, _, _, _, h, _ | 3, _, _, _, h, _ | 4, _, _, _, h, _ | 10, _, _, _, h, _ => h
  | 5, _, _, _, ⟨g, e, h⟩, hb | 11, _, _, _, ⟨g, e, h⟩, hb => ⟨g, e, h.mk' hb⟩
  | 6, _, _, _, ⟨g, e, h, hz, fr, hg⟩, hb | 8, _, _, _, ⟨g, e, h, hz, fr, hg⟩, hb => ⟨g, e, h.mk' hb, hz, hb.ub _ _ _ hg⟩
  | 7, _, _, _, ⟨g, e, h⟩, hb | 9, _, _, _, ⟨g, e, h⟩, hb => ⟨g, e, h.mk' hb⟩
  | 12, _, _, _, ⟨a, b, c, d, e, h⟩, hb => ⟨a, b, c, d, e, h.mk' hb⟩
  | 13, _, _, _, ⟨g, e, h, hz⟩, hb => ⟨g, e, hb.blk _ _ _ (by decide) h, hz⟩
  | _ + 14, _, _, _, _, _ => trivial
def honS (i : Nat) : Nat := [11, 12, 13, 14, 15, 16, 17, 18, 19, 20, 21, 22, 23, 3].getD i 0
def honL : List Nat := [11, 12, 13, 14, 15, 16, 17, 18, 19, 20, 21, 22, 23, 3]
theorem Frm.at {a0 a : Act} {slots : List Nat} (h : Frm a0 a slots) (k : Nat) (hk : (slots.contains k) = false) : a.eval (.tmp k) = a0.tmps.getD k undef := h.keep k (by simpa using hk)
section
variable {dst : Option Tmp} {ty : TypeId} {pos : String} {aft : Array Edge} {gd : Option (Nat × Bool)} {a : Act} {w : World} {K : Act → World → Prop} {Q : Exit → Act → World → Prop}
set_option maxRecDepth 100000 in
theorem wp_conv25 {x : Operand} {g l c B : Nat} {C : Array Value} {fr : Nat × Nat} (hx : a.eval x = .slice (some ⟨g, 0, none⟩) l c) (hg : w.heap[g]? = some (.cells C 5 fr)) (hB : B ≤ g) (h : ∀ w', Mk B w w' → K (a.put dst (.slice (some ⟨g, 0, none⟩) l c)) w') : Oper.wp Tryd.prog ⟨dst, .convert 25 25 x, ty, pos, aft, gd⟩ a w K Q := by
  obtain ⟨w', hr, hm⟩ := conv_mark w g l c B C fr hg hB
  refine wp_runV (.slice (some ⟨g, 0, none⟩) l c) w' ?_ (h w' hm)
  unfold execOp
  simp only [hx, Sem.run_bind, hr, Result.andThen_ok, Sem.run_pure]
set_option maxRecDepth 100000 in
theorem wp_allocC (h : ∀ w1 g, Blk w1 g 27 c0v.cells → w.heap.size ≤ g → Below w.heap.size w w1 → K (a.put dst (.pointer (some ⟨g, 0, none⟩))) w1) : Oper.wp Tryd.prog ⟨dst, .alloc 27, ty, pos, aft, gd⟩ a w K Q :=
  wp_runV _ _ (zCl a.eval dst ty pos aft gd w) (h _ _ (Blk.made _ _ _) (Nat.le_refl _) ((Below.refl _ _).alloc (Nat.le_refl _) _))
set_option maxRecDepth 100000 in
theorem wp_hcl {t11 t14 t16 t18 t20 t22 : Nat} {dx dn dy : List Int} (hx : dx.length = 32) (hn : dn.length = 32) {g16 g18 g20 g22 : Nat} (h1 : a.eval (.tmp t11) = .agg (u8s dx).toArray) (h2 : a.eval (.tmp t14) = .agg (u8s dn).toArray) (h3 : a.eval (.tmp t16) = .slice (some ⟨g16, 0, none⟩) 1 1) (h4 : a.eval (.tmp t18) = .slice (some ⟨g18, 0, none⟩) 1 1) (h5 : a.eval (.tmp t20) = .slice (some ⟨g20, 0, none⟩) 1 1) (h6 : a.eval (.tmp t22) = .slice (some ⟨g22, 0, none⟩) 1 1)
    (h : K (a.put dst (.agg (hcl dx dn dy g16 g18 g20 g22 120).cells.toArray)) w) :
    Oper.wp Tryd.prog ⟨dst, .build 27 #[(0, .const (.int .i64 1)), (1, .const (.int .i64 2)), (2, .tmp t11), (3, .tmp t14), (4, .tmp t16), (6, .tmp t18), (7, .tmp t20), (9, .tmp t22)], ty, pos, aft, gd⟩ a w K Q := by
  refine wp_runV (.agg (hcl dx dn dy g16 g18 g20 g22 120).cells.toArray) w ?_ h
  have hc : ∀ v : Value, a.eval (.const v) = v := fun _ => rfl
  unfold execOp
  simp only [List.map_toArray, List.map_cons, List.map_nil, h1, h2, h3, h4, h5, h6, hc]
  simp only [Sem.run_bind, build_hcl dx dn dy hx hn, Result.andThen_ok, Sem.run_pure]
end

theorem sl_ne {w : World} {g k l c : Nat} {xs : List Int} {t : TypeId} {m : Int} {cs : List Value} (h : Sl w (some ⟨g, 0, none⟩) (l + 1) c xs) (hk : Blk w k t (.int .i64 m :: cs)) : 0 < l + 1 → Apart k (some ⟨g, 0, none⟩) := fun _ x hx => by
  cases hx
  show g ≠ k
  rintro rfl
  obtain ⟨b, o, e, hc⟩ := h.hcell (by omega)
  cases e
  have h0 := hc 0 (by omega)
  rw [Nat.zero_add, hk.cell] at h0
  simp at h0
theorem list35 (L : List Value) (h : L.length = 35) : ∃ x0 x1 x2 x3 x4 x5 x6 x7 x8 x9 x10 x11 x12 x13 x14 x15 x16 x17 x18 x19 x20 x21 x22 x23 x24 x25 x26 x27 x28 x29 x30 x31 x32 x33 x34, L = [x0, x1, x2, x3, x4, x5, x6, x7, x8, x9, x10, x11, x12, x13, x14, x15, x16, x17, x18, x19, x20, x21, x22, x23, x24, x25, x26, x27, x28, x29, x30, x31, x32, x33, x34] := by
  match L, h with
  | x0 :: x1 :: x2 :: x3 :: x4 :: x5 :: x6 :: x7 :: x8 :: x9 :: x10 :: x11 :: x12 :: x13 :: x14 :: x15 :: x16 :: x17 :: x18 :: x19 :: x20 :: x21 :: x22 :: x23 :: x24 :: x25 :: x26 :: x27 :: x28 :: x29 :: x30 :: x31 :: x32 :: x33 :: x34 :: [], _ => exact ⟨x0, x1, x2, x3, x4, x5, x6, x7, x8, x9, x10, x11, x12, x13, x14, x15, x16, x17, x18, x19, x20, x21, x22, x23, x24, x25, x26, x27, x28, x29, x30, x31, x32, x33, x34, rfl⟩
theorem one_slM (w : World) (x : Int) (hx : 0 ≤ x ∧ x ≤ 255) : Sl (w.alloc (.cells #[.int .u8 x] 5 (1, 2))) (some ⟨w.heap.size, 0, none⟩) 1 1 [x] := by
  refine ⟨rfl, Nat.le_refl _, by omega, by omega, by intro y hy; simp at hy; omega, (fun e => by cases e), fun _ => ⟨w.heap.size, 0, rfl, fun i hi => ?_⟩⟩
  obtain rfl : i = 0 := by omega
  have h : (w.alloc (.cells #[.int .u8 x] 5 (1, 2))).heap[w.heap.size]? = some (.cells #[.int .u8 x] 5 (1, 2)) := heap_alloc_new w _
  unfold World.cell?
  rw [h]
  rfl
set_option maxRecDepth 100000 in
set_option maxHeartbeats 1000000 in
theorem honest_any (w : World) (hk : KT w) : Calls Tryd.prog 13 #[] w fun r w' => r = .returned (.bool true) ∧ Below w.heap.size w w' := by
  have HK := hide hk
  clear hk
  obtain ⟨dx, HX⟩ : ∃ d, Hid (d = lf [120]) := ⟨_, hide rfl⟩
  obtain ⟨dy, HY⟩ : ∃ d, Hid (d = lf [121]) := ⟨_, hide rfl⟩
  obtain ⟨dn, HN⟩ : ∃ d, Hid (d = nd dx dy) := ⟨_, hide rfl⟩
  have LX : Hid (dx.length = 32) := hide (by rw [HX.out]; exact lf_length _)
  have LY : Hid (dy.length = 32) := hide (by rw [HY.out]; exact lf_length _)
  have LN : Hid (dn.length = 32) := hide (by rw [HN.out]; exact nd_length _ _)
  have BX : Hid (isB dx) := hide (by rw [HX.out]; exact lf_isB _)
  have BYY : Hid (isB dy) := hide (by rw [HY.out]; exact lf_isB _)
  have BN : Hid (isB dn) := hide (by rw [HN.out]; exact nd_isB _ _)
  have UX : Hid ((u8s dx).length = 32) := hide (by rw [u8s_length, LX.out])
  have UY : Hid ((u8s dy).length = 32) := hide (by rw [u8s_length, LY.out])
  have B0 : Hid (Below w.heap.size w (w.alloc (.cells #[.int .u8 120] 5 (1, 2)))) := hide ((Below.refl _ _).alloc (Nat.le_refl _) _)
  have hcv := Lib.run_convert_bytes_const (P := Tryd.prog) w 25 5 #[.int .u8 120] 1 1 undBs undB
  go_enter Tryd.func13, Tryd.ntmps13
  go_wp2_with (go_at_call 15; refine (leaf_any _ 1 1 [120] _ (one_slM w 120 (by omega)) (by omega) (HK.out.below B0.out HK.out.lt)).mono ?_)
  rintro r w1 ⟨rfl, hb1⟩
  rw [← HX.out]
  have B1 := hide (B0.out.trans (hb1.mono B0.out.size))
  have B1a : Hid (Below w.heap.size w (w1.alloc (.cells #[.int .u8 121] 5 (1, 2)))) := hide (B1.out.alloc B1.out.size _)
  have hcv1 := Lib.run_convert_bytes_const (P := Tryd.prog) w1 25 5 #[.int .u8 121] 1 1 undBs undB
  clear hb1
  go_wp2_with (go_at_call 15; refine (leaf_any _ 1 1 [121] _ (one_slM w1 121 (by omega)) (by omega) (HK.out.below B1a.out HK.out.lt)).mono ?_)
  rintro r w2 ⟨rfl, hb2⟩
  rw [← HY.out]
  have B2 := hide (B1a.out.trans (hb2.mono B1a.out.size))
  clear hb2 hcv hcv1
  go_wp2_with (refine step_alloc zD rfl ?_)
  intro w3 g1 hr3 hl3 hb3
  go_wp2_with (refine step_alloc zD rfl ?_)
  intro w4 g2 hr4 hl4 hb4
  have n12 : g1 ≠ g2 := by have := hr3.lt; omega
  have hg1 : w.heap.size ≤ g1 := Nat.le_trans B2.out.size hl3
  have B3 := hide (B2.out.trans (hb3.mono B2.out.size))
  have hg2 : w.heap.size ≤ g2 := Nat.le_trans B3.out.size hl4
  have B4 := hide (B3.out.trans (hb4.mono B3.out.size))
  go_wp2_with (refine step_storeA wD rfl rfl rfl (hr3.on hb4) UX.out (One.u8 _) (by rw [u8s_length, zer_length]) ?_)
  intro w5 hr5 hbt5
  have B5 := hide (B4.out.trans (hbt5.below hg1))
  go_wp2_with (refine step_storeA wD rfl rfl rfl (hr4.but hbt5 (Ne.symm n12)) UY.out (One.u8 _) (by rw [u8s_length, zer_length]) ?_)
  intro z hr6 hbt6
  have G1 := hide (hr5.but hbt6 n12)
  have G2 := hide hr6
  have BZ := hide (B5.out.trans (hbt6.below hg2))
  clear hr3 hl3 hb3 hr4 hl4 hb4 hr5 hbt5 hr6 hbt6 n12 hg1 hg2 B1 B1a B2 B3 B4 B5 B0
  go_wp2_with fail
  refine wp_region_noPanic ?_
  refine wp_region_inv (n := 14) (slot := honS) (slots := honL) (Val := honV dx dn dy z) (z := z) (R := Mk z.heap.size) (by kernel_rfl) (Mk.of ((Below.refl _ _).drew) (Nat.le_refl _)) (by kernel_rfl) (fun _ _ _ h k => h.trans k) (honV_mono dx dn dy z) (by kernel_rfl) (by kernel_rfl) (by kernel_rfl) (by kernel_rfl) ?_ ?_ rfl
  · intro i hi a v hF hB hV
    have q1 : a.eval (.tmp 1) = .pointer (some ⟨g1, 0, none⟩) := hF.at 1 (by kernel_rfl)
    have q2 : a.eval (.tmp 2) = .pointer (some ⟨g2, 0, none⟩) := hF.at 2 (by kernel_rfl)
    have E1 := hB.blk _ _ _ (by decide) G1.out
    have E2 := hB.blk _ _ _ (by decide) G2.out
    have hz : z.heap.size ≤ v.heap.size := hB.size
    match i, hi with
    | 0, _ => exact wpOp_of rfl rfl (wp_loadWG wD q1 E1 UX.out ⟨_, rfl, rfl, Mk.refl _ _⟩)
    | 1, _ => exact wpOp_of rfl rfl (wp_loadWG wD q1 E1 UX.out ⟨_, rfl, rfl, Mk.refl _ _⟩)
    | 2, _ => exact wpOp_of rfl rfl (wp_loadWG wD q2 E2 UY.out ⟨_, rfl, rfl, Mk.refl _ _⟩)
    | 3, _ =>
      have v1 : a.eval (.tmp 12) = .agg (u8s dx).toArray := hV 1 (by omega) (by kernel_rfl)
      have v2 : a.eval (.tmp 13) = .agg (u8s dy).toArray := hV 2 (by omega) (by kernel_rfl)
      have v1b : a.tmps.getD 12 undef = .agg (u8s dx).toArray := v1
      have v2b : a.tmps.getD 13 undef = .agg (u8s dy).toArray := v2
      have v1c : a.tmps[12]?.getD undef = .agg (u8s dx).toArray := by rw [← Array.getD_eq_getD_getElem?]; exact v1
      have v2c : a.tmps[13]?.getD undef = .agg (u8s dy).toArray := by rw [← Array.getD_eq_getD_getElem?]; exact v2
      refine wpOp_of rfl rfl ?_
      go_simp
      refine (node_any dx dy _ LX.out BX.out LY.out BYY.out (HK.out.below (BZ.out.trans (hB.low.mono BZ.out.size)) HK.out.lt)).mono ?_
      rintro r v3 ⟨rfl, hb3⟩
      rw [← HN.out]
      exact ⟨_, rfl, rfl, Mk.of hb3 hz⟩
    | 4, _ => exact wpOp_of rfl rfl (wp_loadWG wD q2 E2 UY.out ⟨_, rfl, rfl, Mk.refl _ _⟩)
    | 5, _ =>
      have v1 : a.eval (.tmp 15) = .agg (u8s dy).toArray := hV 4 (by omega) (by kernel_rfl)
      exact wpOp_of rfl rfl (wp_oneD v1 LY.out BYY.out fun w1 g hs hb => ⟨_, rfl, ⟨g, rfl, hs⟩, Mk.of hb hz⟩)
    | 6, _ => exact wpOp_of rfl rfl (wp_1u (q := 120) (by omega) rfl fun w1 g hs hl hg hb => ⟨_, rfl, ⟨g, rfl, hs, Nat.le_trans hz hl, _, hg⟩, Mk.of hb hz⟩)
    | 7, _ =>
      obtain ⟨g, e, hs, hzg, fr, hg⟩ := hV 6 (by omega) (by kernel_rfl)
      exact wpOp_of rfl rfl (wp_conv25 e hg hzg fun w' hm => ⟨_, rfl, ⟨g, rfl, hs.mk' hm⟩, hm⟩)
    | 8, _ => exact wpOp_of rfl rfl (wp_1u (q := 120) (by omega) rfl fun w1 g hs hl hg hb => ⟨_, rfl, ⟨g, rfl, hs, Nat.le_trans hz hl, _, hg⟩, Mk.of hb hz⟩)
    | 9, _ =>
      obtain ⟨g, e, hs, hzg, fr, hg⟩ := hV 8 (by omega) (by kernel_rfl)
      exact wpOp_of rfl rfl (wp_conv25 e hg hzg fun w' hm => ⟨_, rfl, ⟨g, rfl, hs.mk' hm⟩, hm⟩)
    | 10, _ => exact wpOp_of rfl rfl (wp_loadWG wD q2 E2 UY.out ⟨_, rfl, rfl, Mk.refl _ _⟩)
    | 11, _ =>
      have v1 : a.eval (.tmp 21) = .agg (u8s dy).toArray := hV 10 (by omega) (by kernel_rfl)
      exact wpOp_of rfl rfl (wp_oneD v1 LY.out BYY.out fun w1 g hs hb => ⟨_, rfl, ⟨g, rfl, hs⟩, Mk.of hb hz⟩)
    | 12, _ =>
      have v0 : a.eval (.tmp 11) = .agg (u8s dx).toArray := hV 0 (by omega) (by kernel_rfl)
      have v3 : a.eval (.tmp 14) = .agg (u8s dn).toArray := hV 3 (by omega) (by kernel_rfl)
      obtain ⟨g16, e16, h16⟩ := hV 5 (by omega) (by kernel_rfl)
      obtain ⟨g18, e18, h18⟩ := hV 7 (by omega) (by kernel_rfl)
      obtain ⟨g20, e20, h20⟩ := hV 9 (by omega) (by kernel_rfl)
      obtain ⟨g22, e22, h22⟩ := hV 11 (by omega) (by kernel_rfl)
      exact wpOp_of rfl rfl (wp_hcl (dy := dy) LX.out LN.out v0 v3 e16 e18 e20 e22 ⟨_, rfl, ⟨g16, g18, g20, g22, rfl, hcl_in LX.out BX.out LN.out BN.out h16 h18 h20 h22⟩, Mk.refl _ _⟩)
    | 13, _ => exact wpOp_of rfl rfl (wp_allocC fun w1 g hg hl hb => ⟨_, rfl, ⟨g, rfl, hg, Nat.le_trans hz hl⟩, Mk.of hb hz⟩)
  · intro a v hF hB hV
    obtain ⟨g16, g18, g20, g22, e23, hin⟩ := hV 12 (by omega)
    obtain ⟨g3, e3, hg3, hl3⟩ := hV 13 (by omega)
    have LC := hide (Cv.length hin.lo hin.ln)
    refine wpOp_of rfl rfl (wp_storeG9 wCl e3 e23 hg3 LC.out (Cv.one _) (by kernel_rfl) ?_)
    intro y hy hbt
    refine NoPanic.normal ?_
    have hiy : (hcl dx dn dy g16 g18 g20 g22 120).In y := ⟨hin.lo, hin.bo, hin.ln, hin.bn, hin.ds.butQ hbt (fun h0 => sl_ne (l := 31) hin.ds.sl hg3 (by omega)), hin.sx.but hbt (sl_ne (l := 0) hin.sx hg3), hin.hx, hin.sy.but hbt (sl_ne (l := 0) hin.sy hg3), hin.hy, hin.dO.butQ hbt (fun h0 => absurd h0 (Nat.lt_irrefl 0)), hin.dN.butQ hbt (fun h0 => sl_ne (l := 31) hin.dN.sl hg3 (by omega))⟩
    have BY := hide ((BZ.out.trans (hB.low.mono BZ.out.size)).trans (hbt.below (Nat.le_trans BZ.out.size hl3)))
    have GY := hide hy
    have IY := hide hiy
    obtain ⟨⟨M⟩, df⟩ := a
    have hM : M.length = 35 := hF.size
    have hdf : df = [] := hF.defers
    subst hdf
    obtain ⟨x0, x1, x2, x3, x4, x5, x6, x7, x8, x9, x10, x11, x12, x13, x14, x15, x16, x17, x18, x19, x20, x21, x22, x23, x24, x25, x26, x27, x28, x29, x30, x31, x32, x33, x34, rfl⟩ := list35 M hM
    have ex3 : x3 = .pointer (some ⟨g3, 0, none⟩) := e3
    subst ex3
    clear hM hF hB hV e23 e3 hin hg3 hbt hy hiy
    have HA1 : Hid ((hcl dx dn dy g16 g18 g20 g22 120).acc = true) := hide (by rw [hcl_acc dx dn dy HX.out LY.out HN.out, ← HX.out, ← HN.out]; simp)
    have HA2 : Hid (∀ g, (hcl dx dn dy g16 g18 g g22 122).acc = false) := hide (fun g => by rw [hcl_acc dx dn dy HX.out LY.out HN.out]; refine decide_eq_false ?_; rw [HN.out, HX.out, HY.out]; exact nd_apart)
    go_wp2_with (first | (refine step_load wCl rfl rfl GY.out _ LC.out (by rw [List.drop_zero, List.take_of_length_le (by rw [LC.out]; omega)]) ?_) | (refine step_alloc zCl rfl ?_))
    intro v1 g4 hr4 hl4 hb4
    have LZ : Hid (c0v.cells.length = 72) := hide (by kernel_rfl)
    have B1 := hide (BY.out.trans (hb4.mono BY.out.size))
    have G31 := hide (GY.out.on hb4)
    have I1 := hide (IY.out.below hb4)
    have h4 : w.heap.size ≤ g4 := Nat.le_trans BY.out.size hl4
    have n34 : g3 ≠ g4 := by have := GY.out.lt; omega
    go_wp2_with (refine step_storeA wCl rfl rfl rfl hr4 LC.out (Cv.one _) LZ.out ?_)
    intro v2 hr5 hbt5
    have hi2 : (hcl dx dn dy g16 g18 g20 g22 120).In v2 := ⟨I1.out.lo, I1.out.bo, I1.out.ln, I1.out.bn, I1.out.ds.butQ hbt5 (fun h0 => sl_ne (l := 31) I1.out.ds.sl hr4 (by omega)), I1.out.sx.but hbt5 (sl_ne (l := 0) I1.out.sx hr4), I1.out.hx, I1.out.sy.but hbt5 (sl_ne (l := 0) I1.out.sy hr4), I1.out.hy, I1.out.dO.butQ hbt5 (fun h0 => absurd h0 (Nat.lt_irrefl 0)), I1.out.dN.butQ hbt5 (fun h0 => sl_ne (l := 31) I1.out.dN.sl hr4 (by omega))⟩
    have I2 := hide hi2
    have G32 := hide (G31.out.but hbt5 n34)
    have G42 := hide hr5
    have B2 := hide (B1.out.trans (hbt5.below h4))
    clear hr4 hb4 hr5 hbt5 hi2 hl4
    have hcv := Lib.run_convert_bytes_const (P := Tryd.prog) v2 25 5 #[.int .u8 122] 1 1 undBs undB
    have hb3 : Below v2.heap.size v2 (v2.alloc (.cells #[.int .u8 122] 5 (1, 2))) := (Below.refl _ _).alloc (Nat.le_refl _) _
    have hs22 := one_slM v2 122 (by omega)
    have hbl3 : Blk (v2.alloc (.cells #[.int .u8 122] 5 (1, 2))) g4 27 (hcl dx dn dy g16 g18 g20 g22 120).cells := G42.out.on hb3
    have hc69 := (Cv.at hbl3 I2.out.lo I2.out.ln).y
    have hf69 := hbl3.free 69
    have hz3 := hbl3.set 69 (.slice (some ⟨v2.heap.size, 0, none⟩) 1 1)
    have hbt3 := But.setCell (v2.alloc (.cells #[.int .u8 122] 5 (1, 2))) g4 69 (.slice (some ⟨v2.heap.size, 0, none⟩) 1 1)
    go_upto_region 5 with fail
    have I3 := I2.out.below hb3
    have hd1 := I3.ds.butQ hbt3 (fun h0 => sl_ne (l := 31) I3.ds.sl hbl3 (by omega))
    have hd2 := I3.sx.but hbt3 (sl_ne (l := 0) I3.sx hbl3)
    have hd3 := I3.sy.but hbt3 (sl_ne (l := 0) I3.sy hbl3)
    have hd4 := I3.dN.butQ hbt3 (fun h0 => sl_ne (l := 31) I3.dN.sl hbl3 (by omega))
    have hd5 := hs22.but hbt3 (sl_ne (l := 0) hs22 hbl3)
    have C1 : Hid ((hcl dx dn dy g16 g18 g20 g22 120).In _) := hide (hcl_in (y := 120) LX.out BX.out LN.out BN.out hd1 hd2 hd3 hd4)
    have C2 : Hid ((hcl dx dn dy g16 g18 v2.heap.size g22 122).In _) := hide (hcl_in (y := 122) LX.out BX.out LN.out BN.out hd1 hd2 hd5 hd4)
    have G33 := hide ((G32.out.on hb3).but hbt3 n34)
    have e69 : (hcl dx dn dy g16 g18 g20 g22 120).cells.set 69 (.slice (some ⟨v2.heap.size, 0, none⟩) 1 1) = (hcl dx dn dy g16 g18 v2.heap.size g22 122).cells := Cv.set69 (hcl dx dn dy g16 g18 g20 g22 120) LX.out LN.out _ 1
    rw [e69] at hz3
    have G43 := hide hz3
    have LC2 : Hid ((hcl dx dn dy g16 g18 v2.heap.size g22 122).cells.length = 72) := hide (Cv.length (c := hcl dx dn dy g16 g18 v2.heap.size g22 122) LX.out LN.out)
    have B3 := hide ((B2.out.trans (hb3.mono B2.out.size)).trans (hbt3.below h4))
    clear hcv hb3 hs22 hbl3 hc69 hf69 hbt3 I3 hd1 hd2 hd3 hd4 hd5 e69 hz3
    generalize (v2.alloc (.cells #[.int .u8 122] 5 (1, 2))).setCell ⟨g4, 69, none⟩ (.slice (some ⟨v2.heap.size, 0, none⟩) 1 1) = V at *
    have K3 := hide (HK.out.below B3.out HK.out.lt)
    go_wp2_with (first | (refine step_load wCl rfl rfl G33.out _ LC.out (by rw [List.drop_zero, List.take_of_length_le (by rw [LC.out]; omega)]) ?_) | (go_at_call 8; refine (accepted_any _ _ C1.out K3.out).mono ?_))
    rintro r v5 ⟨rfl, hb5⟩
    rw [HA1.out]
    have G45 := hide (G43.out.on hb5)
    have C25 := hide (C2.out.below hb5)
    have B5 := hide (B3.out.trans (hb5.mono B3.out.size))
    have K5 := hide (HK.out.below B5.out HK.out.lt)
    clear hb5
    go_wp2_with (first | (refine step_load wCl rfl rfl G45.out _ LC2.out (by rw [List.drop_zero, List.take_of_length_le (by rw [LC2.out]; omega)]) ?_) | (go_at_call 8; refine (accepted_any _ _ C25.out K5.out).mono ?_))
    rintro r v6 ⟨rfl, hb6⟩
    rw [HA2.out]
    go_wp2
    go_ret
    exact ⟨rfl, B5.out.trans (hb6.mono B5.out.size)⟩

end Go.Proofs.YtconeobaohmbnaaDoor

/-
  The walk of ExtractAccepts.
-/
namespace Go.Proofs.YtconeobaohmbnaaDoor
open Go.RowKit
set_option linter.unusedVariables false

theorem uCl : ∃ fs, Tryd.prog.underlying 27 = some (.struct fs) := ⟨_, Tryd.underlying27⟩
theorem Cv.range {c : Cv} {w : World} {g : Nat} {t : TypeId} (h : Blk w g t c.cells) : w.rangeAt g 0 c.cells := h.range 0 c.cells (by simp)
set_option maxRecDepth 100000 in
set_option maxHeartbeats 2000000 in
theorem accepts_walk (c : Cv) (w : World) (hi : c.In w) (hk : KT w) :
    Calls Tryd.prog 3 #[.agg c.cells.toArray] w fun r w' => r = .returned (.bool true) ∧ Below w.heap.size w w' := by
  have HI := hide hi
  have HK := hide hk
  have HL := hide (Cv.length hi.lo hi.ln)
  clear hi hk
  obtain ⟨fs, hu⟩ := uCl
  go_enter Tryd.func3, Tryd.ntmps3
  go_wp2_with (refine step_box rfl rfl ?_)
  intro z g1 hr1 hl1 hb1
  have G1 := hide hr1
  have B1 := hide hb1
  clear hr1 hl1 hb1
  go_wp2_with fail
  refine wp_region_noPanic ?_
  have Z0 := hide ((Below.refl z.heap.size z).drew)
  have HS : Hid ((Tryd.prog.info? 27).map (·.size) = some c.cells.length) := hide (by rw [wCl.size, HL.out])
  refine wp_region_held_drew (S := fun v : World => Below z.heap.size z v) (by kernel_rfl) Z0.out (fun hHeld => ?_)
  refine takeH 0 3 (.agg c.cells.toArray) hHeld rfl rfl (by kernel_rfl) (by kernel_rfl) (by kernel_rfl) (fun _ _ _ h => h) (yieldsIf_load_mid (by rfl) _ _ rfl g1 0 rfl _ _ (fun v hv => Cv.range (G1.out.on hv)) hu rfl HS.out) ?_
  simp only [Act.put, List.setIfInBounds_toArray, List.set_cons_zero, List.set_cons_succ]
  refine takeH 3 6 (.agg c.cells.toArray) hHeld rfl rfl (by kernel_rfl) (by kernel_rfl) (by kernel_rfl) (fun _ _ _ h => h) (yieldsIf_load_mid (by rfl) _ _ rfl g1 0 rfl _ _ (fun v hv => Cv.range (G1.out.on hv)) hu rfl HS.out) ?_
  simp only [Act.put, List.setIfInBounds_toArray, List.set_cons_zero, List.set_cons_succ]
  refine wpAnyH_ready (rs := [1]) (by kernel_rfl) (by simp) (AllReadyH.cons rfl (fun K hK => ?_) AllReadyH.nil)
  rw [if_pos (by rfl)]
  go_simp
  refine (lent9_any c _ ((HI.out.below B1.out).below Z0.out)).mono ?_
  rintro e v1 ⟨aq, cs, ax, cx, ay, cy, ao, co, an, cn, rfl, hin, hv1⟩
  have Z1 := hide (Z0.out.trans (hv1.mono Z0.out.size))
  have HIN := hide hin
  clear hin
  refine hK.out _ _ Z1.out (fun hHeld => ?_)
  clear hK K
  refine wpAnyH_ready (rs := [2]) (by kernel_rfl) (by simp) (AllReadyH.cons rfl (fun K hK => ?_) AllReadyH.nil)
  rw [if_pos (by rfl)]
  go_simp
  refine (accepted_any _ _ HIN.out ((HK.out.below B1.out HK.out.lt).below Z1.out (HK.out.below B1.out HK.out.lt).lt)).mono ?_
  rintro e v2 ⟨rfl, hv2⟩
  have Z2 := hide (Z1.out.trans (hv2.mono Z1.out.size))
  rw [show (c.moved aq cs ax cx ay cy ao co an cn).acc = c.acc from rfl]
  refine hK.out _ _ Z2.out (fun hHeld => ?_)
  clear hK K
  refine wpAnyH_ready (rs := [4]) (by kernel_rfl) (by simp) (AllReadyH.cons rfl (fun K hK => ?_) AllReadyH.nil)
  rw [if_pos (by rfl)]
  go_simp
  refine (acceptedD_any c _ ((HI.out.below B1.out).below Z2.out)).mono ?_
  rintro e v3 ⟨rfl, hv3⟩
  have Z3 := hide (Z2.out.trans (hv3.mono Z2.out.size))
  refine hK.out _ _ Z3.out (fun hHeld => ?_)
  clear hK K
  refine takeH 5 8 (.bool true) hHeld rfl rfl (by kernel_rfl) (by kernel_rfl) (by kernel_rfl) (fun _ _ _ h => h) (Or.inl ⟨by rfl, fun w _ => by go_simp⟩) ?_
  simp only [Act.put, List.setIfInBounds_toArray, List.set_cons_zero, List.set_cons_succ]
  refine takeH 6 2 (.bool true) hHeld rfl rfl (by kernel_rfl) (by kernel_rfl) (by kernel_rfl) (fun _ _ _ h => h) (Or.inl ⟨by rfl, fun w _ => by go_simp⟩) ?_
  simp only [Act.put, List.setIfInBounds_toArray, List.set_cons_zero, List.set_cons_succ]
  refine wpAnyH_done (by kernel_rfl) ?_ _
  refine NoPanic.normal ?_
  clear hHeld hu
  go_wp2
  go_ret
  exact ⟨rfl, B1.out.trans (Z3.out.mono B1.out.size)⟩

end Go.Proofs.YtconeobaohmbnaaDoor

/-
  The walk of ExtractTells.
-/
namespace Go.Proofs.YtconeobaohmbnaaDoor
open Go.RowKit
set_option linter.unusedVariables false

theorem run_neStr {dst : Option Tmp} {ty : TypeId} {pos : String} {aft : Array Edge} {gd : Option (Nat × Bool)} {a : Act} {w : World} {x y : Operand} {xs ys : List Int} (hx : a.eval x = .string (str xs)) (hy : a.eval y = .string (str ys)) (bx : isB xs) (by' : isB ys) :
    (execOp a.eval ⟨dst, .binOp .neq 9 x y 9, ty, pos, aft, gd⟩).run Tryd.prog w = .ok (.value (.bool (!decide (xs = ys)))) w := by
  have e : ((str xs).toList == (str ys).toList) = decide (xs = ys) := by
    have e1 : (str xs).toList = Lib.bytesOf xs := Lib.strOfNums_toList xs
    have e2 : (str ys).toList = Lib.bytesOf ys := Lib.strOfNums_toList ys
    rw [e1, e2]
    by_cases h : xs = ys
    · subst h; simp
    · rw [decide_eq_false h]
      refine beq_false_of_ne (fun h2 => h (str_injQ bx by' ?_))
      apply ByteArray.ext
      exact congrArg List.toArray h2
  unfold execOp
  simp only [hx, hy]
  simp [go_sem]
  rw [← e]
section
variable {dst : Option Tmp} {ty : TypeId} {pos : String} {aft : Array Edge} {gd : Option (Nat × Bool)} {ops : Array Oper} {rest : List Oper} {a : Act} {w : World} {K : Act → World → Prop} {Q : Exit → Act → World → Prop}
theorem step_neStr {x y : Operand} {xs ys : List Int} (q : Bool) (hq : (!decide (xs = ys)) = q) (hw : Region.wanted ⟨dst, .binOp .neq 9 x y 9, ty, pos, aft, gd⟩ (yielded ops a.tmps) = true) (hx : a.eval x = .string (str xs)) (hy : a.eval y = .string (str ys)) (bx : isB xs) (by' : isB ys)
    (h : wpList Tryd.prog ops Q rest (a.put dst (.bool q)) w) : wpList Tryd.prog ops Q (⟨dst, .binOp .neq 9 x y 9, ty, pos, aft, gd⟩ :: rest) a w :=
  step_run hw (.bool q) w (by rw [run_neStr hx hy bx by', hq]) h
theorem step_eqDD {x y : Operand} {xs : List Int} (hw : Region.wanted ⟨dst, .binOp .eql 23 x y 23, ty, pos, aft, gd⟩ (yielded ops a.tmps) = true) (hx : a.eval x = .agg (u8s xs).toArray) (hy : a.eval y = .agg (u8s xs).toArray) (hl : xs.length = 32)
    (h : wpList Tryd.prog ops Q rest (a.put dst (.bool true)) w) : wpList Tryd.prog ops Q (⟨dst, .binOp .eql 23 x y 23, ty, pos, aft, gd⟩ :: rest) a w :=
  step_run hw (.bool true) w (run_eqT aD _ hx hy hl) h
end
set_option maxRecDepth 100000 in
set_option maxHeartbeats 1000000 in
theorem lcol_any (av bv : Value) (fd : Bool) (w : World) (hE : Ext w av bv fd) (hk : KT w) :
    Calls Tryd.prog 12 #[av, bv, .bool fd] w fun r w' => r = .returned (.bool true) ∧ Below w.heap.size w w' := by
  cases fd with
  | false =>
    obtain ⟨rfl, rfl⟩ := hE.no rfl
    go_enter Tryd.func12, Tryd.ntmps12
    go_wp2
    go_ret
    exact ⟨rfl, Below.refl _ _⟩
  | true =>
    obtain ⟨a, l, c, A, b, m, d, B, rfl, rfl, h3, h4, h5, h6⟩ := hE.yes rfl
    have HA := hide h3
    have HB := hide h4
    have HK := hide hk
    have HD := hide h6
    have hne : (!decide (A = B)) = true := by simp [h5]
    clear h3 h4 hk h6 hE
    go_enter Tryd.func12, Tryd.ntmps12
    go_wp2_with (first | (refine step_toStr rfl rfl HA.out ?_) | (refine step_toStr rfl rfl HB.out ?_) | (refine step_neStr true hne rfl rfl rfl HA.out.hbyte HB.out.hbyte ?_) | (go_at_call 23; refine (sum_any a l c A _ HA.out HK.out).mono ?_))
    rintro r w1 ⟨rfl, hb1⟩
    have B1 := hide hb1
    clear hb1
    go_wp2_with (go_at_call 23; refine (sum_any b m d B _ (HB.out.below B1.out) (HK.out.below B1.out HK.out.lt)).mono ?_)
    rintro r w2 ⟨rfl, hb2⟩
    rw [← HD.out]
    go_wp2_with (refine step_eqDD (xs := dg bL 0 A) rfl rfl rfl (dgL A) ?_)
    go_ret
    exact ⟨rfl, B1.out.trans (hb2.mono B1.out.size)⟩

set_option maxRecDepth 100000 in
set_option maxHeartbeats 1000000 in
theorem tells_walk (c : Cv) (w : World) (hi : c.In w) (hk : KT w) :
    Calls Tryd.prog 4 #[.agg c.cells.toArray] w fun r w' => r = .returned (.bool true) ∧ Below w.heap.size w w' := by
  have HI := hide hi
  have HK := hide hk
  have LO := hide hi.lo
  have LN := hide hi.ln
  have LC := hide (Cv.length hi.lo hi.ln)
  clear hi hk
  cases hac : c.acc with
  | false =>
    have HAC := hide hac
    have HFD : Hid ((c.acc && decide (c.X ≠ c.Y)) = false) := hide (by rw [hac]; rfl)
    clear hac
    go_enter Tryd.func4, Tryd.ntmps4
    go_wp2_with (refine step_box (cs := c.cells) rfl rfl ?_)
    intro y g1 hr1 hl1 hb1
    have G1 := hide hr1
    have BY := hide hb1
    have IY := hide (HI.out.below hb1)
    have KY := hide (HK.out.below hb1 HK.out.lt)
    clear hr1 hl1 hb1
    go_wp2_with (first | (refine step_load wCl rfl rfl G1.out _ LC.out (by rw [List.drop_zero, List.take_of_length_le (by rw [LC.out]; omega)]) ?_) | (go_at_call 9; refine (lent9_any c _ IY.out).mono ?_))
    rintro r v1 ⟨aq, cs, ax, cx, ay, cy, ao, co, an, cn, rfl, hin, hv1⟩
    have I1 := hide hin
    have Y1 := hide hv1
    have K1 := hide (KY.out.below Y1.out KY.out.lt)
    clear hin hv1
    go_wp2_with (go_at_call 11; refine (ext_any _ _ I1.out K1.out).mono ?_)
    rintro r v2 ⟨av, bv, rfl, hE2, hv2⟩
    rw [show (c.moved aq cs ax cx ay cy ao co an cn).acc = c.acc from rfl, show (c.moved aq cs ax cx ay cy ao co an cn).X = c.X from rfl, show (c.moved aq cs ax cx ay cy ao co an cn).Y = c.Y from rfl, HFD.out] at hE2 ⊢
    have E2 := hide hE2
    have Y2 := hide (Y1.out.trans (hv2.mono Y1.out.size))
    have K2 := hide (KY.out.below Y2.out KY.out.lt)
    clear hE2 hv2 I1 K1 Y1
    go_wp2_with (go_at_call 12; refine (lcol_any av bv _ _ E2.out K2.out).mono ?_)
    rintro r v3 ⟨rfl, hv3⟩
    have Y3 := hide (Y2.out.trans (hv3.mono Y2.out.size))
    have G3 := hide (G1.out.on Y3.out)
    have I3 := hide (IY.out.below Y3.out)
    clear hv3 E2 K2 Y2
    go_wp2_with (first | (refine step_load wCl rfl rfl G3.out _ LC.out (by rw [List.drop_zero, List.take_of_length_le (by rw [LC.out]; omega)]) ?_) | (go_at_call 9; refine (lent9_any c _ I3.out).mono ?_))
    rintro r v4 ⟨aq', cs', ax', cx', ay', cy', ao', co', an', cn', rfl, hin, hv4⟩
    have I4 := hide hin
    have Y4 := hide (Y3.out.trans (hv4.mono Y3.out.size))
    have K4 := hide (KY.out.below Y4.out KY.out.lt)
    clear hin hv4 I3 G3 Y3
    go_wp2_with (go_at_call 8; refine (accepted_any _ _ I4.out K4.out).mono ?_)
    rintro r v5 ⟨rfl, hv5⟩
    rw [show (c.moved aq' cs' ax' cx' ay' cy' ao' co' an' cn').acc = c.acc from rfl, HAC.out]
    have Y5 := hide (Y4.out.trans (hv5.mono Y4.out.size))
    have K5 := hide (KY.out.below Y5.out KY.out.lt)
    have SX := hide (IY.out.below Y5.out).sx
    have SY := hide (IY.out.below Y5.out).sy
    have hkx := (Cv.at (G1.out.on Y5.out) LO.out LN.out).x
    have hky := (Cv.at (G1.out.on Y5.out) LO.out LN.out).y
    have BW := hide (BY.out.trans (Y5.out.mono BY.out.size))
    clear hv5 I4 K4 Y4
    go_wp2_with (go_at_call 13; refine (honest_any _ K5.out).mono ?_)
    rintro r v6 ⟨rfl, hv6⟩
    have B6 := hide (BW.out.trans (hv6.mono BW.out.size))
    clear hv6
    go_wp2
    go_ret
    exact ⟨rfl, B6.out⟩
  | true =>
    by_cases hxy : c.X = c.Y
    · have HAC := hide hac
      have HFD : Hid ((c.acc && decide (c.X ≠ c.Y)) = false) := hide (by simp [hxy])
      have HNE : Hid ((!decide (c.X = c.Y)) = false) := hide (by simp [hxy])
      clear hac hxy
      go_enter Tryd.func4, Tryd.ntmps4
      go_wp2_with (refine step_box (cs := c.cells) rfl rfl ?_)
      intro y g1 hr1 hl1 hb1
      have G1 := hide hr1
      have BY := hide hb1
      have IY := hide (HI.out.below hb1)
      have KY := hide (HK.out.below hb1 HK.out.lt)
      clear hr1 hl1 hb1
      go_wp2_with (first | (refine step_load wCl rfl rfl G1.out _ LC.out (by rw [List.drop_zero, List.take_of_length_le (by rw [LC.out]; omega)]) ?_) | (go_at_call 9; refine (lent9_any c _ IY.out).mono ?_))
      rintro r v1 ⟨aq, cs, ax, cx, ay, cy, ao, co, an, cn, rfl, hin, hv1⟩
      have I1 := hide hin
      have Y1 := hide hv1
      have K1 := hide (KY.out.below Y1.out KY.out.lt)
      clear hin hv1
      go_wp2_with (go_at_call 11; refine (ext_any _ _ I1.out K1.out).mono ?_)
      rintro r v2 ⟨av, bv, rfl, hE2, hv2⟩
      rw [show (c.moved aq cs ax cx ay cy ao co an cn).acc = c.acc from rfl, show (c.moved aq cs ax cx ay cy ao co an cn).X = c.X from rfl, show (c.moved aq cs ax cx ay cy ao co an cn).Y = c.Y from rfl, HFD.out] at hE2 ⊢
      have E2 := hide hE2
      have Y2 := hide (Y1.out.trans (hv2.mono Y1.out.size))
      have K2 := hide (KY.out.below Y2.out KY.out.lt)
      clear hE2 hv2 I1 K1 Y1
      go_wp2_with (go_at_call 12; refine (lcol_any av bv _ _ E2.out K2.out).mono ?_)
      rintro r v3 ⟨rfl, hv3⟩
      have Y3 := hide (Y2.out.trans (hv3.mono Y2.out.size))
      have G3 := hide (G1.out.on Y3.out)
      have I3 := hide (IY.out.below Y3.out)
      clear hv3 E2 K2 Y2
      go_wp2_with (first | (refine step_load wCl rfl rfl G3.out _ LC.out (by rw [List.drop_zero, List.take_of_length_le (by rw [LC.out]; omega)]) ?_) | (go_at_call 9; refine (lent9_any c _ I3.out).mono ?_))
      rintro r v4 ⟨aq', cs', ax', cx', ay', cy', ao', co', an', cn', rfl, hin, hv4⟩
      have I4 := hide hin
      have Y4 := hide (Y3.out.trans (hv4.mono Y3.out.size))
      have K4 := hide (KY.out.below Y4.out KY.out.lt)
      clear hin hv4 I3 G3 Y3
      go_wp2_with (go_at_call 8; refine (accepted_any _ _ I4.out K4.out).mono ?_)
      rintro r v5 ⟨rfl, hv5⟩
      rw [show (c.moved aq' cs' ax' cx' ay' cy' ao' co' an' cn').acc = c.acc from rfl, HAC.out]
      have Y5 := hide (Y4.out.trans (hv5.mono Y4.out.size))
      have K5 := hide (KY.out.below Y5.out KY.out.lt)
      have SX := hide (IY.out.below Y5.out).sx
      have SY := hide (IY.out.below Y5.out).sy
      have hkx := (Cv.at (G1.out.on Y5.out) LO.out LN.out).x
      have hky := (Cv.at (G1.out.on Y5.out) LO.out LN.out).y
      have BW := hide (BY.out.trans (Y5.out.mono BY.out.size))
      clear hv5 I4 K4 Y4
      go_wp2_with (first | (refine step_toStr rfl rfl SX.out ?_) | (refine step_toStr rfl rfl SY.out ?_) | (refine step_neStr _ HNE.out rfl rfl rfl SX.out.hbyte SY.out.hbyte ?_) | (go_at_call 13; refine (honest_any _ K5.out).mono ?_))
      rintro r v6 ⟨rfl, hv6⟩
      have B6 := hide (BW.out.trans (hv6.mono BW.out.size))
      clear hv6
      go_wp2
      go_ret
      exact ⟨rfl, B6.out⟩
    · have HAC := hide hac
      have HFD : Hid ((c.acc && decide (c.X ≠ c.Y)) = true) := hide (by simp [hxy, hac])
      have HNE : Hid ((!decide (c.X = c.Y)) = true) := hide (by simp [hxy])
      clear hac hxy
      go_enter Tryd.func4, Tryd.ntmps4
      go_wp2_with (refine step_box (cs := c.cells) rfl rfl ?_)
      intro y g1 hr1 hl1 hb1
      have G1 := hide hr1
      have BY := hide hb1
      have IY := hide (HI.out.below hb1)
      have KY := hide (HK.out.below hb1 HK.out.lt)
      clear hr1 hl1 hb1
      go_wp2_with (first | (refine step_load wCl rfl rfl G1.out _ LC.out (by rw [List.drop_zero, List.take_of_length_le (by rw [LC.out]; omega)]) ?_) | (go_at_call 9; refine (lent9_any c _ IY.out).mono ?_))
      rintro r v1 ⟨aq, cs, ax, cx, ay, cy, ao, co, an, cn, rfl, hin, hv1⟩
      have I1 := hide hin
      have Y1 := hide hv1
      have K1 := hide (KY.out.below Y1.out KY.out.lt)
      clear hin hv1
      go_wp2_with (go_at_call 11; refine (ext_any _ _ I1.out K1.out).mono ?_)
      rintro r v2 ⟨av, bv, rfl, hE2, hv2⟩
      rw [show (c.moved aq cs ax cx ay cy ao co an cn).acc = c.acc from rfl, show (c.moved aq cs ax cx ay cy ao co an cn).X = c.X from rfl, show (c.moved aq cs ax cx ay cy ao co an cn).Y = c.Y from rfl, HFD.out] at hE2 ⊢
      have E2 := hide hE2
      have Y2 := hide (Y1.out.trans (hv2.mono Y1.out.size))
      have K2 := hide (KY.out.below Y2.out KY.out.lt)
      clear hE2 hv2 I1 K1 Y1
      go_wp2_with (go_at_call 12; refine (lcol_any av bv _ _ E2.out K2.out).mono ?_)
      rintro r v3 ⟨rfl, hv3⟩
      have Y3 := hide (Y2.out.trans (hv3.mono Y2.out.size))
      have G3 := hide (G1.out.on Y3.out)
      have I3 := hide (IY.out.below Y3.out)
      clear hv3 E2 K2 Y2
      go_wp2_with (first | (refine step_load wCl rfl rfl G3.out _ LC.out (by rw [List.drop_zero, List.take_of_length_le (by rw [LC.out]; omega)]) ?_) | (go_at_call 9; refine (lent9_any c _ I3.out).mono ?_))
      rintro r v4 ⟨aq', cs', ax', cx', ay', cy', ao', co', an', cn', rfl, hin, hv4⟩
      have I4 := hide hin
      have Y4 := hide (Y3.out.trans (hv4.mono Y3.out.size))
      have K4 := hide (KY.out.below Y4.out KY.out.lt)
      clear hin hv4 I3 G3 Y3
      go_wp2_with (go_at_call 8; refine (accepted_any _ _ I4.out K4.out).mono ?_)
      rintro r v5 ⟨rfl, hv5⟩
      rw [show (c.moved aq' cs' ax' cx' ay' cy' ao' co' an' cn').acc = c.acc from rfl, HAC.out]
      have Y5 := hide (Y4.out.trans (hv5.mono Y4.out.size))
      have K5 := hide (KY.out.below Y5.out KY.out.lt)
      have SX := hide (IY.out.below Y5.out).sx
      have SY := hide (IY.out.below Y5.out).sy
      have hkx := (Cv.at (G1.out.on Y5.out) LO.out LN.out).x
      have hky := (Cv.at (G1.out.on Y5.out) LO.out LN.out).y
      have BW := hide (BY.out.trans (Y5.out.mono BY.out.size))
      clear hv5 I4 K4 Y4
      go_wp2_with (first | (refine step_toStr rfl rfl SX.out ?_) | (refine step_toStr rfl rfl SY.out ?_) | (refine step_neStr _ HNE.out rfl rfl rfl SX.out.hbyte SY.out.hbyte ?_) | (go_at_call 13; refine (honest_any _ K5.out).mono ?_))
      rintro r v6 ⟨rfl, hv6⟩
      have B6 := hide (BW.out.trans (hv6.mono BW.out.size))
      clear hv6
      go_wp2
      go_ret
      exact ⟨rfl, B6.out⟩

end Go.Proofs.YtconeobaohmbnaaDoor

/-
  Contracts of octet's functions: room, number, Uint64, Digest; widened, putNumber, PutUint64, PutDigest.
-/
namespace Go.Proofs.YtconeobaohmbnaaDoor
open Go.RowKit
set_option linter.unusedVariables false

set_option maxHeartbeats 400000 in
theorem room_any (a : Option Addr) (len cap : Nat) (p : Int) (n : Nat) (w : World) (hl : len ≤ 140737488355328) (hn : n ≤ 32) :
    Calls Tryd.prog 107 #[.slice a len cap, .int .i64 p, .int .i64 n] w fun e w' => e = .returned (.int .i64 (rdE len p n)) ∧ w = w' := by
  by_cases h : p < 0
  · have e : rdE len p n = 2 := by simp [rdE, h]
    rw [e]
    go_enter Tryd.func107, Tryd.ntmps107
    go_wp2
    go_ret
    exact ⟨rfl, rfl⟩
  by_cases h' : (len : Int) < p
  · have e : rdE len p n = 2 := by simp [rdE, h']
    rw [e]
    clear e
    go_enter Tryd.func107, Tryd.ntmps107
    go_wp2
    go_ret
    exact ⟨rfl, rfl⟩
  by_cases h2 : (len : Int) - p < n
  · have e : rdE len p n = 10 := by simp [rdE, h, h', h2]
    rw [e]
    clear e
    go_enter Tryd.func107, Tryd.ntmps107
    go_wp2
    go_ret
    exact ⟨rfl, rfl⟩
  · have e : rdE len p n = 0 := by simp [rdE, h, h', h2]
    rw [e]
    clear e
    go_enter Tryd.func107, Tryd.ntmps107
    go_wp2
    go_ret
    exact ⟨rfl, rfl⟩
set_option maxHeartbeats 400000 in
theorem number_any (a : Option Addr) (len cap : Nat) (xs : List Int) (p : Int) (n : Nat) (w : World) (hs : Sl w a len cap xs) (hn : n ≤ 8) (hn0 : 0 < n) :
    Calls Tryd.prog 106 #[.slice a len cap, .int .i64 p, .int .i64 n] w fun e w' => e = .returned (.tuple #[.int .u64 (rdV xs p n), .int .i64 (rdN len p n), .int .i64 (rdE len p n)]) ∧ w = w' := by
  obtain ⟨hx, _, _, hl, hb, _, hc⟩ := hs
  by_cases h : p < 0 ∨ (len : Int) < p ∨ (len : Int) - p < n
  · have e1 : rdV xs p n = 0 := by simp [rdV, hx]; omega
    have e2 : rdN len p n = 0 := by simp [rdN]; omega
    have e3 : rdE len p n = 2 ∨ rdE len p n = 10 := by
      by_cases h1 : p < 0 ∨ (len : Int) < p
      · left; simp [rdE, h1]
      · right; have h2 : (len : Int) - p < n := by omega
        simp [rdE, h1, h2]
    rw [e1, e2]
    have hne : (rdE len p n != 0) = true := by simp; omega
    clear e1 e2 hc e3
    go_enter Tryd.func106, Tryd.ntmps106
    go_wp2_with (go_at_call 107; refine (room_any _ _ _ _ _ _ hl (by omega)).mono ?_; rintro e w' ⟨rfl, rfl⟩)
    go_ret3
    exact ⟨rfl, rfl⟩
  · obtain ⟨p, rfl⟩ := Int.eq_ofNat_of_zero_le (show 0 ≤ p by omega)
    obtain ⟨b, off, rfl, hce⟩ := hc (by omega)
    clear hc
    have e1 : rdV xs p n = beVal ((xs.drop p).take n) := by simp only [rdV, hx]; rw [if_pos (by omega)]; simp
    have e2 : rdN len p n = p + n := by simp [rdN]; omega
    have e3 : rdE len p n = 0 := by simp [rdE]; omega
    rw [e1, e2, e3]
    have E3 : Hid (rdE len p n = 0) := e3
    clear e1 e2 e3
    go_enter Tryd.func106, Tryd.ntmps106
    go_wp2_with (go_at_call 107; refine (room_any _ _ _ _ _ _ hl (by omega)).mono ?_; rintro e w' ⟨rfl, rfl⟩; rw [E3.out])
    go_loop [6, 19] (fun v i => ∃ k : Nat, k ≤ n ∧ i = .int .i64 k ∧ v = .int .u64 (beVal ((xs.drop p).take k))) (fun _ i => n - (intOf i).toNat)
    case atStart => exact ⟨0, Nat.zero_le _, rfl, by simp [beVal]⟩
    case round =>
      obtain ⟨k, hk, rfl, rfl⟩ := hrel
      by_cases hlt : k < n
      · have hck := hce (p + k) (by omega)
        have HS : Hid _ := beVal_step xs p k (by omega)
        have H2 : Hid _ := hb.get (p + k)
        have H3 : Hid _ := beVal_take_bd xs hb p k (by omega) (by omega)
        go_wp2
        go_round
        case rel =>
          refine ⟨k + 1, by omega, by go_num, ?_⟩
          rw [HS.out, ← or_step _ _ H3.out.1 H3.out.2 H2.out.1 H2.out.2]
          rfl
        case measure => simp [intOf]; omega
      · have hkn : k = n := by omega
        subst hkn
        clear hce
        go_wp2
        go_ret3
        exact ⟨rfl, rfl⟩
set_option maxHeartbeats 400000 in
theorem uint64_any (a : Option Addr) (len cap : Nat) (xs : List Int) (p : Int) (w : World) (hs : Sl w a len cap xs) :
    Calls Tryd.prog 87 #[.slice a len cap, .int .i64 p] w fun e w' => e = .returned (.tuple #[.int .u64 (rdV xs p 8), .int .i64 (rdN len p 8), .int .i64 (rdE len p 8)]) ∧ w = w' := by
  go_enter Tryd.func87, Tryd.ntmps87
  go_wp2_with (go_at_call 106; refine (number_any _ _ _ xs _ 8 _ hs (by omega) (by omega)).mono ?_; rintro e w' ⟨rfl, rfl⟩)
  go_ret3
  exact ⟨rfl, rfl⟩

theorem spl_zer (ys : List Int) (n m : Nat) (h : ys.length = m) : spl (u8s (zer (m + n))) (u8s (ys.take m)) 0 = u8s (ys ++ zer n) := by
  rw [spl_u8, ← h, List.take_length]
  congr 1
  simp [splB, zer]
set_option maxHeartbeats 400000 in
theorem widened_any (a : Option Addr) (len cap : Nat) (xs : List Int) (n : Nat) (w : World) (hs : Sl w a len cap xs) (hn : n ≤ 64) :
    Calls Tryd.prog 86 #[.slice a len cap, .int .i64 n] w fun e w' => ∃ g, e = .returned (.slice (some ⟨g, 0, none⟩) (len + n) (len + n)) ∧ w.heap.size ≤ g ∧ Blk w' g 5 (u8s (xs ++ zer n)) ∧ Below w.heap.size w w' := by
  have hr := hs.hreach
  have HS := hide hs
  clear hs
  go_enter Tryd.func86, Tryd.ntmps86
  go_wp2_with (refine step_make (len + n) rfl rfl rfl (by omega) (by omega) (by omega) ?_)
  intro w1 g hrow hg hb
  go_wp2_with (refine step_copy rfl rfl rfl (HS.out.below hb) g 0 len (by omega) hrow (fun _ => rfl) (by rw [u8s_length, zer_length]; omega) ?_)
  intro w2 hrow2 hbut
  rw [spl_zer xs n len HS.out.hlen] at hrow2
  go_wp2
  go_ret
  exact ⟨g, rfl, hg, hrow2, hb.trans (hbut.below hg)⟩
/-- One byte more of B laid over noughts. -/
theorem fill_step (xs B : List Int) (len n k : Nat) (hx : xs.length = len) (hB : B.length = n) (hk : k < n) :
    (xs ++ (B.take k ++ zer (n - k))).set (len + k) (B.getD k 0) = xs ++ (B.take (k + 1) ++ zer (n - (k + 1))) := by
  subst hx
  rw [List.set_append_right _ _ (by omega), Nat.add_sub_cancel_left]
  congr 1
  have hz : zer (n - k) = 0 :: zer (n - (k + 1)) := by
    have : n - k = (n - (k + 1)) + 1 := by omega
    rw [this]; simp [zer, List.replicate_succ]
  rw [List.set_append_right _ _ (by simp; omega), hz]
  have e : k - (B.take k).length = 0 := by simp; omega
  have e2 : B.getD k 0 = B[k] := by simp [List.getD, hB, hk]
  rw [e, e2, List.take_succ_eq_append_getElem (by omega), List.append_assoc]
  rfl
set_option maxHeartbeats 400000 in
theorem putNumber_any (a : Option Addr) (len cap : Nat) (xs : List Int) (v : Int) (n : Nat) (w : World) (hs : Sl w a len cap xs) (hn : n ≤ 8) (hv : 0 ≤ v) (hv2 : v < 18446744073709551616) :
    Calls Tryd.prog 85 #[.slice a len cap, .int .u64 v, .int .i64 n] w fun e w' => ∃ g, e = .returned (.slice (some ⟨g, 0, none⟩) (len + n) (len + n)) ∧ w.heap.size ≤ g ∧ Blk w' g 5 (u8s (xs ++ be v n)) ∧ Below w.heap.size w w' := by
  have hr := hs.hreach
  have HS := hide hs
  clear hs
  go_enter Tryd.func85, Tryd.ntmps85
  go_wp2_with (go_at_call 86; refine (widened_any _ _ _ xs n _ HS.out (by omega)).mono ?_; rintro e w1 ⟨g, rfl, hg, hrow, hb⟩)
  go_loopw [13] (fun i wr => ∃ k : Nat, k ≤ n ∧ i = .int .i64 k ∧ Blk wr g 5 (u8s (xs ++ ((be v n).take k ++ zer (n - k)))) ∧ Below w.heap.size w wr) (fun i _ => n - (intOf i).toNat)
  case atStart => exact ⟨0, by omega, rfl, by simpa using hrow, hb⟩
  case round =>
    obtain ⟨k, hk, rfl, hr1, hb1⟩ := hrel
    by_cases hlt : k < n
    · have hl1 : (xs ++ ((be v n).take k ++ zer (n - k))).length = len + n := by simp [be_length, zer_length, HS.out.hlen]; omega
      have hcell : wr.cell? ⟨g, len + k, none⟩ = some (.int .u8 ((xs ++ ((be v n).take k ++ zer (n - k))).getD (len + k) 0)) := by rw [hr1.cell, u8s_get _ _ (by omega)]
      have hfree := hr1.free (len + k)
      clear hl1
      have HE := hide (fill_step xs (be v n) len n k HS.out.hlen (be_length v n) hlt)
      have HR := hide hr1
      clear hr1
      go_wp2
      go_roundw
      case rel =>
        have e := HR.out.set (len + k) (.int .u8 ((be v n).getD k 0))
        rw [u8s_set, HE.out, be_get v n k hlt, ← pow2_8] at e
        exact ⟨k + 1, by omega, by go_num, e, hb1.setCell hg _⟩
      case measure => simp [intOf]; omega
    · have hkn : k = n := by omega
      subst hkn
      go_wp2
      go_ret
      refine ⟨g, rfl, hg, ?_, hb1⟩
      have e : xs ++ (List.take k (be v k) ++ zer (k - k)) = xs ++ be v k := by
        rw [List.take_of_length_le (by rw [be_length]; exact Nat.le_refl _)]; simp [zer]
      rw [e] at hr1
      exact hr1
set_option maxHeartbeats 400000 in
theorem putUint64_any (a : Option Addr) (len cap : Nat) (xs : List Int) (v : Int) (w : World) (hs : Sl w a len cap xs) (hv : 0 ≤ v) (hv2 : v < 18446744073709551616) :
    Calls Tryd.prog 61 #[.slice a len cap, .int .u64 v] w fun e w' => ∃ g, e = .returned (.slice (some ⟨g, 0, none⟩) (len + 8) (len + 8)) ∧ w.heap.size ≤ g ∧ Blk w' g 5 (u8s (xs ++ be v 8)) ∧ Below w.heap.size w w' := by
  have HS := hide hs
  clear hs
  go_enter Tryd.func61, Tryd.ntmps61
  go_wp2_with (go_at_call 85; refine (putNumber_any _ _ _ xs v 8 _ HS.out (by omega) hv hv2).mono ?_; rintro e w1 ⟨g, rfl, hg, hrow, hb⟩)
  go_ret
  exact ⟨g, rfl, hg, hrow, hb⟩
theorem spl_tail (xs ds : List Int) (len : Nat) (hx : xs.length = len) (hd : ds.length = 32) : spl (u8s (xs ++ zer 32)) (u8s (ds.take 32)) len = u8s (xs ++ ds) := by
  subst hx
  rw [spl_u8, List.take_of_length_le (by omega)]
  congr 1
  simp only [splB, hd, List.take_left]
  rw [List.drop_eq_nil_of_le (by simp [zer])]
  simp
set_option maxHeartbeats 400000 in
theorem putDigest_any (a : Option Addr) (len cap : Nat) (xs ds : List Int) (w : World) (hs : Sl w a len cap xs) (hd : ds.length = 32) (hdb : isB ds) :
    Calls Tryd.prog 62 #[.slice a len cap, .agg (u8s ds).toArray] w fun e w' => ∃ g, e = .returned (.slice (some ⟨g, 0, none⟩) (len + 32) (len + 32)) ∧ w.heap.size ≤ g ∧ Blk w' g 5 (u8s (xs ++ ds)) ∧ Below w.heap.size w w' := by
  have HS := hide hs
  have HD := hide hd
  have hreach := hs.hreach
  clear hs hd
  go_enter Tryd.func62, Tryd.ntmps62
  go_wp2_with (refine step_box rfl rfl ?_)
  intro w1 g1 hr1 hg1 hb1
  go_wp2_with (go_at_call 86; refine (widened_any _ _ _ xs 32 _ (HS.out.below hb1) (by omega)).mono ?_; rintro e w2 ⟨g2, rfl, hg2, hr2, hb2⟩)
  have hr1' := hr1.below hb2 hr1.lt
  have hsl := hide (hr1'.sl 0 32 ds (by rw [List.drop_zero, List.take_of_length_le (by rw [u8s_length]; exact Nat.le_refl _)]) hdb (by rw [HD.out]; omega) (by rw [HD.out]; omega) (by omega))
  rw [HD.out] at hsl
  have hll : Hid ((u8s (xs ++ zer 32)).length = len + 32) := by show _ = _; simp [u8s_length, zer, HS.out.hlen]
  have hle : (len : Int) ≤ (len : Int) + 32 := by omega
  have hsl2 := hide (hsl.out.below ((Below.refl _ _).drew))
  go_region_law (refine rstep_copy rfl rfl rfl rfl hsl2.out g2 len 32 (by omega) hr2 (fun _ => rfl) (by rw [hll.out]; omega) ?_; intro w3 hr3 hbut3)
  rw [spl_tail xs ds len HS.out.hlen HD.out] at hr3
  have hb3 : Below w.heap.size w w3 := ((hb1.trans (hb2.mono hb1.size)).drew).trans (hbut3.below (Nat.le_trans hb1.size hg2))
  clear hr1 hr1' hr2 hsl hsl2 hbut3 hll
  go_wp2
  go_ret
  exact ⟨g2, rfl, Nat.le_trans hb1.size hg2, hr3, hb3⟩

end Go.Proofs.YtconeobaohmbnaaDoor

/-
  octet.Digest; compact.readSpan.
-/
namespace Go.Proofs.YtconeobaohmbnaaDoor
open Go.RowKit
set_option linter.unusedVariables false

set_option maxHeartbeats 400000 in
theorem octD_bad (a : Option Addr) (len cap : Nat) (p : Int) (w : World) (hl : len ≤ 140737488355328) (h : p < 0 ∨ (len : Int) < p ∨ (len : Int) - p < 32) :
    Calls Tryd.prog 90 #[.slice a len cap, .int .i64 p] w fun e w' => (∃ E, E ≠ 0 ∧ e = .returned (.tuple #[.agg (u8s (zer 32)).toArray, .int .i64 0, .int .i64 E])) ∧ Below w.heap.size w w' := by
  have e3 : rdE len p 32 = 2 ∨ rdE len p 32 = 10 := by
    by_cases h1 : p < 0 ∨ (len : Int) < p
    · left; simp [rdE, h1]
    · right; have h2 : (len : Int) - p < 32 := by omega
      simp [rdE, h1, h2]
  have hne0 : rdE len p 32 ≠ 0 := by omega
  have hne : (rdE len p 32 != 0) = true := by simp; omega
  have HNE := hide hne0
  clear e3 h hne0
  go_enter Tryd.func90, Tryd.ntmps90
  go_wp2_with (refine step_alloc zD rfl ?_)
  intro w1 g1 hr1 hg1 hb1
  have G1 := hide hr1
  clear hr1
  go_wp2_with (first | (go_at_call 107; refine (room_any _ _ _ _ 32 _ hl (by omega)).mono ?_; rintro e w' ⟨rfl, rfl⟩) | (refine step_buildD rfl ?_) | (refine step_storeA wD rfl rfl rfl G1.out rfl (One.u8 _) rfl ?_; intro w2 hg2 hbut))
  refine bodyPost_ret (results_wide3 rfl wD _ _ rfl hg2 rfl) rfl ⟨⟨_, HNE.out, rfl⟩, ?_⟩
  exact hb1.trans (hbut.below hg1)

theorem spl_full {cs vs : List Value} (h : vs.length = cs.length) : spl cs vs 0 = vs := by
  unfold spl
  rw [List.drop_of_length_le (by omega)]
  simp
set_option maxHeartbeats 400000 in
theorem octD_ok (b off len cap : Nat) (xs : List Int) (p : Nat) (w : World) (hs : Sl w (some ⟨b, off, none⟩) len cap xs) (h : p + 32 ≤ len) :
    Calls Tryd.prog 90 #[.slice (some ⟨b, off, none⟩) len cap, .int .i64 (p : Int)] w fun e w' => e = .returned (.tuple #[.agg (u8s ((xs.drop p).take 32)).toArray, .int .i64 (p + 32 : Int), .int .i64 0]) ∧ Below w.heap.size w w' := by
  have hl := hs.hreach
  have hcap := hs.hcap
  have HS := hide hs
  obtain ⟨ys, HYE⟩ : ∃ ys, Hid ((xs.drop p).take 32 = ys) := ⟨_, hide rfl⟩
  have HY : Hid (ys.length = 32) := hide (by rw [← HYE.out]; simp; have := hs.hlen; omega)
  have HUL : Hid ((u8s ys).length = 32) := hide (by rw [u8s_length, HY.out])
  rw [HYE.out]
  have E3 : Hid (rdE len p 32 = 0) := by show _ = _; simp [rdE]; omega
  clear hs
  go_enter Tryd.func90, Tryd.ntmps90
  go_wp2_with (refine step_alloc zD rfl ?_)
  intro w1 g1 hr1 hg1 hb1
  go_wp2_with (go_at_call 107; refine (room_any _ _ _ _ 32 _ hl (by omega)).mono ?_; rintro e w' ⟨rfl, rfl⟩; rw [E3.out])
  have hpl : p ≤ len := by omega
  have hpc : ¬ cap = p := by omega
  have HD := hide ((((HS.out.below hb1).drop p hpl)).below ((Below.refl _ _).drew))
  go_region_law (refine rstep_copy rfl rfl rfl rfl HD.out g1 0 32 (by omega) hr1 (fun _ => rfl) (by simp [u8s_length, zer_length]) ?_; intro w3 hr3 hbut3)
  rw [HYE.out, spl_full (by rw [HUL.out]; rfl)] at hr3
  have G3 := hide hr3
  have hb3 : Below w.heap.size w w3 := hb1.drew.trans (hbut3.below hg1)
  clear hr1 hr3 hbut3 HD
  go_wp2_with (first | (refine step_loadA wD rfl rfl G3.out HUL.out ?_) | (refine step_storeA wD rfl rfl rfl G3.out HUL.out (One.u8 _) HUL.out ?_))
  intro w5 hr5 hbut5
  go_wp2
  refine bodyPost_ret (results_wide3 rfl wD _ _ rfl hr5 HUL.out) rfl ⟨?_, hb3.trans (hbut5.below hg1)⟩
  simp

end Go.Proofs.YtconeobaohmbnaaDoor

/-
  The document's Digest at a place where there is one.
-/
namespace Go.Proofs.YtconeobaohmbnaaDoor
open Go.RowKit
set_option linter.unusedVariables false

theorem sub_get (xs : List Int) (p i : Nat) (hi : i < 32) : ((xs.drop p).take 32).getD i 0 = xs.getD (p + i) 0 := by
  simp [List.getD, List.getElem?_drop, hi]
theorem elemBy : Tryd.prog.elem 25 = 5 := by kernel_rfl
set_option maxRecDepth 100000 in
theorem b_at (b o n cap i : Nat) (hi : i < n) (v : World) : (Instr.indexAt 25 (.slice (some ⟨b, o, none⟩) n cap) (.int .i64 (i : Int))).run Tryd.prog v = .ok (.pointer (some ⟨b, o + i, none⟩)) v := by
  rw [run_indexAt_slice v _ _ _ _ .i64 i undBs, if_pos ⟨by omega, by omega⟩, elemBy, sizeB]
  simp only [Result.andThen_ok, Int.toNat_natCast]
  rw [Addr.add_lit, Nat.mul_one]
set_option maxRecDepth 100000 in
set_option maxHeartbeats 2000000 in
theorem digAt_any (a : Option Addr) (len cap : Nat) (xs : List Int) (p : Nat) (w : World) (hs : Sl w a len cap xs) (hp : p + 32 ≤ len) :
    Calls Tryd.prog 102 #[.slice a len cap, .int .i64 (p : Int)] w fun r w' => r = .returned (.tuple #[.agg (u8s ((xs.drop p).take 32)).toArray, .int .i64 ((p : Int) + 32), .int .i64 0]) ∧ Below w.heap.size w w' := by
  have hlen := hs.hlen
  have hmx := hs.hreach
  obtain ⟨b, off, rfl, hce⟩ := hs.hcell (by omega)
  have hbl : b < w.heap.size := World.block_lt_of_cell? w _ (hce 0 (by omega))
  obtain ⟨ys, HY⟩ : ∃ ys, Hid ((xs.drop p).take 32 = ys) := ⟨_, hide rfl⟩
  have HX : Hid (ys.length = 32) := hide (by rw [← HY.out, List.length_take, List.length_drop]; omega)
  have HCE : Hid (∀ i, i < 32 → w.cell? ⟨b, off + (p + i), none⟩ = some (.int .u8 (ys.getD i 0))) := hide (fun i hi => by
    rw [← HY.out, sub_get xs p i hi]
    exact hce (p + i) (by omega))
  have hp0 : ¬ (p : Int) < 0 := by omega
  have hp1 : ¬ (len : Int) < (p : Int) := by omega
  have hp2 : wrap64 ((len : Int) - (p : Int)) = (len : Int) - (p : Int) := by unfold wrap64; omega
  have hp3 : ¬ (len : Int) - (p : Int) < 32 := by omega
  have hp4 : wrap64 ((p : Int) + 32) = (p : Int) + 32 := by unfold wrap64; omega
  rw [HY.out]
  clear hs hce hlen
  go_enter Tryd.func102, Tryd.ntmps102
  go_wp2_with (refine step_alloc zD0 rfl ?_)
  intro w1 g1 hg1 hle1 hb1
  go_wp2_with (refine step_alloc zD0 rfl ?_)
  intro w2 g2 hg2 hle2 hb2
  have hb12 : Below w.heap.size w w2 := hb1.trans (hb2.mono hb1.size)
  have G1 := hide (hg1.below hb2 hg1.lt)
  have G2 := hide hg2
  have n12 : g1 ≠ g2 := by have := hg1.lt; omega
  have l2 : w.heap.size ≤ g2 := by have := hb1.size; omega
  have HCE2 : Hid (∀ i, i < 32 → w2.cell? ⟨b, off + (p + i), none⟩ = some (.int .u8 (ys.getD i 0))) := hide (fun i hi => by
    rw [hb12.cell (p := ⟨b, off + (p + i), none⟩) hbl]; exact HCE.out i hi)
  have HB12 := hide hb12
  clear hg1 hg2 hb1 hb2 hb12 HCE hle2
  go_wp2
  go_loopw [8] (fun i wq => ∃ k : Nat, k ≤ 32 ∧ i = .int .i64 k ∧ Blk wq g2 22 (spl (u8s (zer 32)) (u8s (ys.take k)) 0) ∧ But g2 w2 wq) (fun i _ => 32 - (intOf i).toNat)
  case atStart => exact ⟨0, by omega, rfl, G2.out, But.refl _ _⟩
  case round =>
    clear G2
    obtain ⟨k, hk, rfl, hr, hbut⟩ := hrel
    have HR := hide hr
    have HBut := hide hbut
    clear hr hbut
    by_cases hk32 : k < 32
    · obtain ⟨old, hold⟩ := spl_there ys 32 k HX.out hk32
      have hcell : wr.cell? ⟨g2, k, none⟩ = some old := by rw [HR.out.cell]; exact hold
      have hfree : wr.frozen? ⟨g2, k, none⟩ = false := HR.out.free k
      have hsrc : wr.cell? ⟨b, off + (p + k), none⟩ = some (.int .u8 (ys.getD k 0)) := by
        rw [World.cell?_of_block (w := w2) (HBut.out.block b (by omega)), HCE2.out k hk32]
      have hkL : (k : Int) < 32 := by omega
      have hpk : wrap64 ((p : Int) + (k : Int)) = (p : Int) + (k : Int) := by unfold wrap64; omega
      have x2 := index_D g2 k (k : Int) rfl hk32
      have x1 : ∀ v : World, (Instr.indexAt 25 (.slice (some ⟨b, off, none⟩) len cap) (.int .i64 ((p : Int) + (k : Int)))).run Tryd.prog v = .ok (.pointer (some ⟨b, off + (p + k), none⟩)) v := fun v => by
        rw [show (p : Int) + (k : Int) = ((p + k : Nat) : Int) by omega]
        exact b_at b off len cap (p + k) (by omega) v
      have HN := hide (spl_next ys 32 k HX.out hk32)
      clear hold
      go_wp2
      refine ⟨⟨k + 1, by omega, by go_num, ?_, HBut.out.trans (But.setCell _ _ _ _)⟩, ?_⟩
      · have e := HR.out.set k (.int .u8 (ys.getD k 0))
        rw [HN.out] at e
        exact e
      · simp [intOf]; omega
    · obtain rfl : k = 32 := by omega
      have HF := hide HR.out
      rw [List.take_of_length_le (by rw [HX.out]; exact Nat.le_refl _), spl_all ys 32 HX.out] at HF
      have G1q := hide (G1.out.but HBut.out n12)
      go_wp2_with (first | (refine step_loadA wD0 rfl rfl HF.out (by rw [u8s_length]; exact HX.out) ?_) | (refine step_storeA wD0 rfl rfl rfl G1q.out (by rw [u8s_length]; exact HX.out) (One.u8 _) rfl ?_; intro w6 hg6 hbut6))
      refine bodyPost_ret (results_wide3 rfl wD0 _ _ rfl hg6 (by rw [u8s_length]; exact HX.out)) rfl ⟨rfl, ?_⟩
      exact HB12.out.trans ((HBut.out.below l2).trans (hbut6.below hle1))

end Go.Proofs.YtconeobaohmbnaaDoor

/-
  wire: need, which gives up; what a reader of bytes tells: one, number, digest; how many digests a proof has.
-/
namespace Go.Proofs.YtconeobaohmbnaaDoor
open Go.RowKit
set_option linter.unusedVariables false
set_option linter.unusedSimpArgs false

/-- What is given up. -/
def PE : List PanicEntry := [{ v := .iface 41 (.int .i64 80), recovered := false }]

theorem need_ok (w : World) : Calls Tryd.prog 66 #[.bool true] w fun e w' => e = .returned (.tuple #[]) ∧ w' = w := by
  go_enter Tryd.func66, Tryd.ntmps66
  go_wp2
  go_end0
  exact ⟨rfl, rfl⟩
theorem need_no (w : World) : Calls Tryd.prog 66 #[.bool false] w fun e w' => e = .panicked PE ∧ w' = w := by
  go_enter Tryd.func66, Tryd.ntmps66
  go_wp2
  exact ⟨rfl, rfl, rfl⟩

/-- The cells of a reader of bytes. -/
def brC (v : Value) (p : Int) : List Value := [v, .int .i64 p]
theorem wBr : Wide 77 2 := ⟨by kernel_rfl, by kernel_rfl⟩
theorem br_at {w : World} {g : Nat} {t : TypeId} {v : Value} {p : Int} (h : Blk w g t (brC v p)) : w.cell? ⟨g, 0, none⟩ = some v ∧ w.cell? ⟨g, 1, none⟩ = some (.int .i64 p) := ⟨by rw [h.cell]; rfl, by rw [h.cell]; rfl⟩

theorem br_apart {w : World} {g : Nat} {t : TypeId} {n : Nat} {q : Option Addr} {m c : Nat} {p : Int} {a : Option Addr} {len cap : Nat} {xs : List Int} (h : Blk w g t (brC (.slice q m c) p)) (hs : Sl w a len cap xs) : 0 < len → Apart g a := fun h0 x hx e => by
  obtain ⟨b, off, rfl, hce⟩ := hs.hcell h0
  obtain rfl := Option.some.inj hx
  simp only at e
  subst e
  have := hce 0 h0
  rw [h.cell] at this
  rcases hq : off + 0 with _ | _ | k <;> rw [hq] at this
  · cases this
  · cases this
  · rw [List.getElem?_eq_none (by simp [brC])] at this
    cases this
/-- A reader and its bytes stand behind what leaves all but the reader's cell as it was. -/
theorem br_set {w : World} {g : Nat} {q : Option Addr} {m c : Nat} {p : Int} {a : Option Addr} {len cap : Nat} {xs : List Int} (hg : Blk w g 77 (brC (.slice q m c) p)) (hs : Sl w a len cap xs) (k : Nat) (z : Int) :
    Blk ((w.drewN k).setCell ⟨g, 1, none⟩ (.int .i64 z)) g 77 (brC (.slice q m c) z) ∧ Sl ((w.drewN k).setCell ⟨g, 1, none⟩ (.int .i64 z)) a len cap xs ∧ But g w ((w.drewN k).setCell ⟨g, 1, none⟩ (.int .i64 z)) :=
  ⟨(hg.drewN k).set 1 _, (hs.drewN k).but (But.setCell _ _ _ _) (br_apart (n := 0) hg hs), ((But.refl g w).drewN k).trans (But.setCell _ _ _ _)⟩

set_option maxRecDepth 100000 in
theorem one_ok (g : Nat) (a : Option Addr) (len cap : Nat) (xs : List Int) (p : Nat) (w : World) (hg : Blk w g 77 (brC (.slice a len cap) (p : Int))) (hs : Sl w a len cap xs) (hp : p < len) :
    Calls Tryd.prog 63 #[.pointer (some ⟨g, 0, none⟩)] w fun e w' => e = .returned (.int .i64 (xs.getD p 0)) ∧ Blk w' g 77 (brC (.slice a len cap) ((p + 1 : Nat) : Int)) ∧ But g w w' := by
  have hr := hs.hreach
  obtain ⟨c0, c1⟩ := br_at hg
  have hlt : (p : Int) < (len : Int) := by omega
  have HX := hide (fun k => br_set hg hs k ((p : Int) + 1))
  have hfz := hg.free 1
  have hz := hs.hbyte.get p
  clear hg hs
  obtain ⟨z, hzz⟩ : ∃ z, xs.getD p 0 = z := ⟨_, rfl⟩
  rw [hzz] at hz ⊢
  have HZ := hide hzz
  obtain ⟨hz0, hz1⟩ := hz
  clear hzz
  go_enter Tryd.func63, Tryd.ntmps63
  go_wp2_with fail
  go_quiet (first | (go_at_call 66; exact Calls.quiet_of_same (need_ok _)))
  go_wp2_with fail
  obtain ⟨hgW, hsW, hnW⟩ := HX.out nq
  clear HX c0 c1 hfz
  generalize (w.drewN nq).setCell ⟨g, 1, none⟩ (.int .i64 ((p : Int) + 1)) = W at *
  obtain ⟨c0, c1⟩ := br_at hgW
  obtain ⟨b, off, rfl, hce⟩ := hsW.hcell (by omega)
  have hcp := hce p hp
  rw [HZ.out] at hcp
  have GW := hide hgW
  have NW := hide hnW
  clear hgW hsW hnW hce
  go_quiet (fail)
  go_wp2
  go_ret
  exact ⟨rfl, by rw [show ((p + 1 : Nat) : Int) = (p : Int) + 1 by omega]; exact GW.out.drewN _, NW.out.drewN _⟩
set_option maxRecDepth 100000 in
theorem one_no (g : Nat) (a : Option Addr) (len cap : Nat) (p : Nat) (w : World) (hg : Blk w g 77 (brC (.slice a len cap) (p : Int))) (hp : len ≤ p) (hl : p ≤ 281474976710656) :
    Calls Tryd.prog 63 #[.pointer (some ⟨g, 0, none⟩)] w fun e w' => e = .panicked PE ∧ But g w w' := by
  obtain ⟨c0, c1⟩ := br_at hg
  have hlt : ¬ (p : Int) < (len : Int) := by omega
  have hlb : decide ((p : Int) < (len : Int)) = false := by simp; omega
  clear hg
  go_enter Tryd.func63, Tryd.ntmps63
  go_wp2_with fail
  refine wp_region_held_drew (S := fun v : World => v.cell? ⟨g, 0, none⟩ = some (.slice a len cap) ∧ v.cell? ⟨g, 1, none⟩ = some (.int .i64 (p : Int))) (by kernel_rfl) ⟨c0, c1⟩ (fun hHeld => ?_)
  refine takeH 0 3 (.pointer (some ⟨g, 0, none⟩)) hHeld rfl rfl (by kernel_rfl) (by kernel_rfl) (by kernel_rfl) (fun _ _ _ h => h) (Or.inl ⟨by rfl, fun w _ => by go_simp⟩) ?_
  simp only [Act.put, List.setIfInBounds_toArray, List.set_cons_zero, List.set_cons_succ]
  refine takeH 1 4 (.pointer (some ⟨g, 0, none⟩)) hHeld rfl rfl (by kernel_rfl) (by kernel_rfl) (by kernel_rfl) (fun _ _ _ h => h) (Or.inl ⟨by rfl, fun w _ => by go_simp⟩) ?_
  simp only [Act.put, List.setIfInBounds_toArray, List.set_cons_zero, List.set_cons_succ]
  refine takeH 2 5 (.pointer (some ⟨g, 1, none⟩)) hHeld rfl rfl (by kernel_rfl) (by kernel_rfl) (by kernel_rfl) (fun _ _ _ h => h) (Or.inl ⟨by rfl, fun w _ => by go_simp⟩) ?_
  simp only [Act.put, List.setIfInBounds_toArray, List.set_cons_zero, List.set_cons_succ]
  refine takeH 3 6 (.int .i64 (p : Int)) hHeld rfl rfl (by kernel_rfl) (by kernel_rfl) (by kernel_rfl) (fun _ _ _ h => h) (Or.inl ⟨by rfl, fun w hw => by have hw' : w.cell? ⟨g, 1, none⟩ = some (.int .i64 (p : Int)) := And.right hw; go_simp⟩) ?_
  simp only [Act.put, List.setIfInBounds_toArray, List.set_cons_zero, List.set_cons_succ]
  refine takeH 4 7 (.pointer (some ⟨g, 0, none⟩)) hHeld rfl rfl (by kernel_rfl) (by kernel_rfl) (by kernel_rfl) (fun _ _ _ h => h) (Or.inl ⟨by rfl, fun w _ => by go_simp⟩) ?_
  simp only [Act.put, List.setIfInBounds_toArray, List.set_cons_zero, List.set_cons_succ]
  refine takeH 5 8 (.pointer (some ⟨g, 0, none⟩)) hHeld rfl rfl (by kernel_rfl) (by kernel_rfl) (by kernel_rfl) (fun _ _ _ h => h) (Or.inl ⟨by rfl, fun w _ => by go_simp⟩) ?_
  simp only [Act.put, List.setIfInBounds_toArray, List.set_cons_zero, List.set_cons_succ]
  refine takeH 6 9 (.pointer (some ⟨g, 0, none⟩)) hHeld rfl rfl (by kernel_rfl) (by kernel_rfl) (by kernel_rfl) (fun _ _ _ h => h) (Or.inl ⟨by rfl, fun w _ => by go_simp⟩) ?_
  simp only [Act.put, List.setIfInBounds_toArray, List.set_cons_zero, List.set_cons_succ]
  refine takeH 7 10 (.slice a len cap) hHeld rfl rfl (by kernel_rfl) (by kernel_rfl) (by kernel_rfl) (fun _ _ _ h => h) (Or.inl ⟨by rfl, fun w hw => by have hw' : w.cell? ⟨g, 0, none⟩ = some (.slice a len cap) := And.left hw; go_simp⟩) ?_
  simp only [Act.put, List.setIfInBounds_toArray, List.set_cons_zero, List.set_cons_succ]
  refine takeH 8 11 (.int .i64 (len : Int)) hHeld rfl rfl (by kernel_rfl) (by kernel_rfl) (by kernel_rfl) (fun _ _ _ h => h) (Or.inl ⟨by rfl, fun w _ => by go_simp⟩) ?_
  simp only [Act.put, List.setIfInBounds_toArray, List.set_cons_zero, List.set_cons_succ]
  refine takeH 9 12 (.bool false) hHeld rfl rfl (by kernel_rfl) (by kernel_rfl) (by kernel_rfl) (fun _ _ _ h => h) (Or.inl ⟨by rfl, fun w _ => by go_simp⟩) ?_
  simp only [Act.put, List.setIfInBounds_toArray, List.set_cons_zero, List.set_cons_succ]
  refine wpAnyH_ready (rs := [10]) (by kernel_rfl) (by simp) (AllReadyH.cons rfl (fun K hK => ?_) AllReadyH.nil)
  rw [if_pos (by rfl)]
  go_simp
  refine (need_no _).mono ?_
  rintro e w' ⟨rfl, rfl⟩
  exact ⟨rfl, rfl, (But.refl g w).drewN 1⟩

theorem rd_ok {len : Nat} {p : Nat} {xs : List Int} (hp : p + 8 ≤ len) : rdN len (p : Int) 8 = (p : Int) + 8 ∧ rdE len (p : Int) 8 = 0 := by
  constructor
  · simp [rdN]; omega
  · simp [rdE]; omega
theorem rd_no {len : Nat} {p : Nat} (hp : len < p + 8) : rdE len (p : Int) 8 ≠ 0 := by
  unfold rdE
  split
  · decide
  · rw [if_pos (by omega)]; decide
theorem rdV8_bd (xs : List Int) (hb : isB xs) (p : Nat) : 0 ≤ rdV xs (p : Int) 8 ∧ rdV xs (p : Int) 8 < 18446744073709551616 := by
  unfold rdV
  split
  · have := beVal_bd ((xs.drop (p : Int).toNat).take 8) ((hb.drop _).take _)
    rename_i h
    rw [List.length_take, List.length_drop, Nat.min_eq_left (by omega)] at this
    have e : (256 : Int) ^ 8 = 18446744073709551616 := by decide
    omega
  · omega
set_option maxRecDepth 100000 in
theorem num_ok (g : Nat) (a : Option Addr) (len cap : Nat) (xs : List Int) (p : Nat) (w : World) (hg : Blk w g 77 (brC (.slice a len cap) (p : Int))) (hs : Sl w a len cap xs) (hp : p + 8 ≤ len) (hm : rdV xs (p : Int) 8 ≤ 281474976710656) :
    Calls Tryd.prog 64 #[.pointer (some ⟨g, 0, none⟩)] w fun e w' => e = .returned (.int .i64 (rdV xs (p : Int) 8)) ∧ Blk w' g 77 (brC (.slice a len cap) ((p + 8 : Nat) : Int)) ∧ But g w w' := by
  have hr := hs.hreach
  obtain ⟨c0, c1⟩ := br_at hg
  have HX := hide (fun k => br_set hg hs k ((p : Int) + 8))
  have HU : Hid (∀ V : World, Sl V a len cap xs → Calls Tryd.prog 87 #[.slice a len cap, .int .i64 (p : Int)] V fun e w' => e = .returned (.tuple #[.int .u64 (rdV xs (p : Int) 8), .int .i64 (rdN len (p : Int) 8), .int .i64 (rdE len (p : Int) 8)]) ∧ w' = V) :=
    hide (fun V hV => (uint64_any a len cap xs (p : Int) V hV).mono fun _ _ h => ⟨h.1, h.2.symm⟩)
  have HS := hide hs
  have hfz := hg.free 1
  have hv := rdV8_bd xs hs.hbyte p
  clear hg hs
  obtain ⟨e1, e2⟩ := rd_ok (xs := xs) hp
  rw [e1, e2] at HU
  clear e1 e2
  generalize rdV xs (p : Int) 8 = v at *
  obtain ⟨hv0, hv1⟩ := hv
  have hw : IntKind.i64.wrap v = v := wrap_in v (by omega) (by omega)
  go_enter Tryd.func64, Tryd.ntmps64
  go_wp2_with fail
  go_quiet (first | (go_at_call 87; exact Calls.quiet_of_same (HU.out _ (HS.out.drewN _))))
  go_wp2_with fail
  refine (need_ok _).mono ?_
  rintro e w' ⟨rfl, rfl⟩
  go_wp2
  go_ret
  obtain ⟨h1, h2, h3⟩ := HX.out nq
  exact ⟨rfl, by rw [show ((p + 8 : Nat) : Int) = (p : Int) + 8 by omega]; exact h1, h3⟩
set_option maxRecDepth 100000 in
theorem num_no (g : Nat) (a : Option Addr) (len cap : Nat) (xs : List Int) (p : Nat) (w : World) (hg : Blk w g 77 (brC (.slice a len cap) (p : Int))) (hs : Sl w a len cap xs) (hp : len < p + 8 ∨ 281474976710656 < rdV xs (p : Int) 8) :
    Calls Tryd.prog 64 #[.pointer (some ⟨g, 0, none⟩)] w fun e w' => e = .panicked PE ∧ But g w w' := by
  have hr := hs.hreach
  obtain ⟨c0, c1⟩ := br_at hg
  have HX := hide (fun k => br_set hg hs k ((p : Int) + 8))
  have HU : Hid (∀ V : World, Sl V a len cap xs → Calls Tryd.prog 87 #[.slice a len cap, .int .i64 (p : Int)] V fun e w' => e = .returned (.tuple #[.int .u64 (rdV xs (p : Int) 8), .int .i64 (rdN len (p : Int) 8), .int .i64 (rdE len (p : Int) 8)]) ∧ w' = V) :=
    hide (fun V hV => (uint64_any a len cap xs (p : Int) V hV).mono fun _ _ h => ⟨h.1, h.2.symm⟩)
  have HS := hide hs
  have hfz := hg.free 1
  have hv := rdV8_bd xs hs.hbyte p
  clear hg hs
  by_cases h8 : len < p + 8
  · have hne : (rdE len (p : Int) 8 == 0) = false := by simpa using rd_no h8
    generalize rdE len (p : Int) 8 = E at *
    generalize rdN len (p : Int) 8 = N at *
    clear hp
    generalize rdV xs (p : Int) 8 = v at *
    go_enter Tryd.func64, Tryd.ntmps64
    go_wp2_with fail
    go_quiet (first | (go_at_call 87; exact Calls.quiet_of_same (HU.out _ (HS.out.drewN _))))
    go_wp2_with fail
    refine (need_no _).mono ?_
    rintro e w' ⟨rfl, rfl⟩
    exact ⟨rfl, rfl, (But.refl g w).drewN _⟩
  · obtain ⟨e1, e2⟩ := rd_ok (xs := xs) (show p + 8 ≤ len by omega)
    rw [e1, e2] at HU
    have hp2 : 281474976710656 < rdV xs (p : Int) 8 := by omega
    clear e1 e2 hp
    generalize rdV xs (p : Int) 8 = v at *
    have hle : decide (v ≤ 281474976710656) = false := by simp; omega
    go_enter Tryd.func64, Tryd.ntmps64
    go_wp2_with fail
    go_quiet (first | (go_at_call 87; exact Calls.quiet_of_same (HU.out _ (HS.out.drewN _))))
    go_wp2_with fail
    refine (need_no _).mono ?_
    rintro e w' ⟨rfl, rfl⟩
    exact ⟨rfl, rfl, (But.refl g w).drewN _⟩

end Go.Proofs.YtconeobaohmbnaaDoor

/-
  wire: the digest that a reader of bytes tells; how many digests a proof has, by the program and by the document.
-/
namespace Go.Proofs.YtconeobaohmbnaaDoor
open Go.RowKit
set_option linter.unusedVariables false
set_option linter.unusedSimpArgs false

theorem joinE {T : Program} {c : Code} {a : Act} {w : World} {Q : Exit → Act → World → Prop} {K : Act → World → Prop} (P : Nat → World → Prop) (act : Nat → Act) (h1 : ∀ g W, P g W → K (act g) W) (h2 : (∀ g W, P g W → K (act g) W) → Code.wp T c (Exit.then K Q) a w) : Code.wp T c (Exit.then K Q) a w := h2 h1

set_option maxHeartbeats 400000 in
theorem octD_no (a : Option Addr) (len cap : Nat) (p : Int) (w : World) (hl : len ≤ 140737488355328) (h : p < 0 ∨ (len : Int) < p ∨ (len : Int) - p < 32) :
    Calls Tryd.prog 90 #[.slice a len cap, .int .i64 p] w fun e w' => e = .returned (.tuple #[.agg (u8s (zer 32)).toArray, .int .i64 0, .int .i64 (rdE len p 32)]) ∧ Below w.heap.size w w' := by
  have e3 : rdE len p 32 = 2 ∨ rdE len p 32 = 10 := by
    by_cases h1 : p < 0 ∨ (len : Int) < p
    · left; simp [rdE, h1]
    · right; have h2 : (len : Int) - p < 32 := by omega
      simp [rdE, h1, h2]
  have hne : (rdE len p 32 != 0) = true := by simp; omega
  clear e3 h
  go_enter Tryd.func90, Tryd.ntmps90
  go_wp2_with (refine step_alloc zD rfl ?_)
  intro w1 g1 hr1 hg1 hb1
  have G1 := hide hr1
  clear hr1
  go_wp2_with (first | (go_at_call 107; refine (room_any _ _ _ _ 32 _ hl (by omega)).mono ?_; rintro e w' ⟨rfl, rfl⟩) | (refine step_buildD rfl ?_) | (refine step_storeA wD rfl rfl rfl G1.out rfl (One.u8 _) rfl ?_; intro w2 hg2 hbut))
  refine bodyPost_ret (results_wide3 rfl wD _ _ rfl hg2 rfl) rfl ⟨rfl, ?_⟩
  exact hb1.trans (hbut.below hg1)

theorem Chg.fresh {g k : Nat} {w v v' : World} (h : Chg g w v) (hb : But k v v') (hk : w.heap.size ≤ k) : Chg g w v' :=
  ⟨hb.os.trans h.os, hb.tape.trans h.tape, hb.output.trans h.output, by rw [hb.size]; exact h.size, fun i hi hg => by rw [hb.block i (by omega)]; exact h.block i hi hg⟩
theorem rdE32_no {len : Nat} {p : Nat} (h : len < p + 32) : rdE len (p : Int) 32 ≠ 0 := by
  unfold rdE
  split
  · decide
  · rw [if_pos (by omega)]; decide

set_option maxRecDepth 100000 in
set_option maxHeartbeats 1000000 in
theorem dig_any (g : Nat) (a : Option Addr) (len cap : Nat) (p N E : Int) (D : List Int) (w : World) (hg : Blk w g 77 (brC (.slice a len cap) p)) (hD : D.length = 32)
    (hC : ∀ V : World, Below w.heap.size w V → Calls Tryd.prog 90 #[.slice a len cap, .int .i64 p] V fun e w' => e = .returned (.tuple #[.agg (u8s D).toArray, .int .i64 N, .int .i64 E]) ∧ Below V.heap.size V w') :
    Calls Tryd.prog 67 #[.pointer (some ⟨g, 0, none⟩)] w fun e w' =>
      (E = 0 → e = .returned (.agg (u8s D).toArray) ∧ Blk w' g 77 (brC (.slice a len cap) N) ∧ Chg g w w') ∧ (E ≠ 0 → e = .panicked PE ∧ Chg g w w') := by
  have G := hide hg
  have HC := hide hC
  have HDU := hide (show (u8s D).length = 32 by rw [u8s_length, hD])
  clear hg hC hD
  go_enter Tryd.func67, Tryd.ntmps67
  go_wp2_with (refine step_alloc zD rfl ?_)
  intro w1 g2 hr1 hl1 hb1
  have B1 := hide hb1
  have R2 := hide hr1
  have GW := hide (G.out.below hb1 G.out.lt)
  have hg2 : g < w.heap.size := G.out.lt
  clear hr1 hb1
  go_wp2_with fail
  refine joinE (fun g3 W => Blk W g3 23 (u8s D) ∧ w1.heap.size ≤ g3 ∧ Below w1.heap.size w1 W) ?act ?tail (fun hjoin => ?_)
  rotate_left
  rotate_left
  · have Y0 := hide ((Below.refl w1.heap.size w1).drew)
    have hc0 : ∀ v : World, Below w1.heap.size w1 v → v.cell? ⟨g, 0, none⟩ = some (.slice a len cap) := fun v hv => (br_at (GW.out.below hv GW.out.lt)).1
    have hc1 : ∀ v : World, Below w1.heap.size w1 v → v.cell? ⟨g, 1, none⟩ = some (.int .i64 p) := fun v hv => (br_at (GW.out.below hv GW.out.lt)).2
    refine wp_region_held_drew (S := fun v : World => Below w1.heap.size w1 v) (by kernel_rfl) Y0.out (fun hHeld => ?_)
    refine takeH 0 7 (.pointer (some ⟨g, 0, none⟩)) hHeld rfl rfl (by kernel_rfl) (by kernel_rfl) (by kernel_rfl) (fun _ _ _ h => h) (Or.inl ⟨by rfl, fun w _ => by go_simp⟩) ?_
    simp only [Act.put, List.setIfInBounds_toArray, List.set_cons_zero, List.set_cons_succ]
    refine takeH 1 8 (.pointer (some ⟨g, 0, none⟩)) hHeld rfl rfl (by kernel_rfl) (by kernel_rfl) (by kernel_rfl) (fun _ _ _ h => h) (Or.inl ⟨by rfl, fun w _ => by go_simp⟩) ?_
    simp only [Act.put, List.setIfInBounds_toArray, List.set_cons_zero, List.set_cons_succ]
    refine takeH 2 9 (.pointer (some ⟨g, 0, none⟩)) hHeld rfl rfl (by kernel_rfl) (by kernel_rfl) (by kernel_rfl) (fun _ _ _ h => h) (Or.inl ⟨by rfl, fun w _ => by go_simp⟩) ?_
    simp only [Act.put, List.setIfInBounds_toArray, List.set_cons_zero, List.set_cons_succ]
    refine takeH 3 10 (.slice a len cap) hHeld rfl rfl (by kernel_rfl) (by kernel_rfl) (by kernel_rfl) (fun _ _ _ h => h) (Or.inl ⟨by rfl, fun w hw => by have hw' : w.cell? ⟨g, 0, none⟩ = some (.slice a len cap) := hc0 _ hw; go_simp⟩) ?_
    simp only [Act.put, List.setIfInBounds_toArray, List.set_cons_zero, List.set_cons_succ]
    refine takeH 4 11 (.pointer (some ⟨g, 0, none⟩)) hHeld rfl rfl (by kernel_rfl) (by kernel_rfl) (by kernel_rfl) (fun _ _ _ h => h) (Or.inl ⟨by rfl, fun w _ => by go_simp⟩) ?_
    simp only [Act.put, List.setIfInBounds_toArray, List.set_cons_zero, List.set_cons_succ]
    refine takeH 5 12 (.pointer (some ⟨g, 0, none⟩)) hHeld rfl rfl (by kernel_rfl) (by kernel_rfl) (by kernel_rfl) (fun _ _ _ h => h) (Or.inl ⟨by rfl, fun w _ => by go_simp⟩) ?_
    simp only [Act.put, List.setIfInBounds_toArray, List.set_cons_zero, List.set_cons_succ]
    refine takeH 6 13 (.pointer (some ⟨g, 1, none⟩)) hHeld rfl rfl (by kernel_rfl) (by kernel_rfl) (by kernel_rfl) (fun _ _ _ h => h) (Or.inl ⟨by rfl, fun w _ => by go_simp⟩) ?_
    simp only [Act.put, List.setIfInBounds_toArray, List.set_cons_zero, List.set_cons_succ]
    refine takeH 7 14 (.int .i64 p) hHeld rfl rfl (by kernel_rfl) (by kernel_rfl) (by kernel_rfl) (fun _ _ _ h => h) (Or.inl ⟨by rfl, fun w hw => by have hw' : w.cell? ⟨g, 1, none⟩ = some (.int .i64 p) := hc1 _ hw; go_simp⟩) ?_
    simp only [Act.put, List.setIfInBounds_toArray, List.set_cons_zero, List.set_cons_succ]
    refine wpAnyH_ready (rs := [8, 13]) (by kernel_rfl) (by simp) (AllReadyH.cons rfl (fun K hK => ?_) (AllReadyH.cons rfl (fun K hK => ?_) AllReadyH.nil))
    · rw [if_pos (by rfl)]
      go_simp
      refine (HC.out _ (B1.out.trans (Y0.out.mono B1.out.size))).mono ?_
      rintro e v1 ⟨rfl, hv1⟩
      have Y1 := hide (on_below Y0.out hv1)
      refine hK.out _ _ Y1.out (fun hHeld => ?_)
      clear hK K
      try simp only [Act.put, List.setIfInBounds_toArray, List.set_cons_zero, List.set_cons_succ]
      refine takeH 9 6 (.tuple #[.agg (u8s D).toArray, .int .i64 N, .int .i64 E]) hHeld rfl rfl (by kernel_rfl) (by kernel_rfl) (by kernel_rfl) (fun _ _ _ h => h) (Or.inl ⟨by rfl, fun w _ => by go_simp⟩) ?_
      simp only [Act.put, List.setIfInBounds_toArray, List.set_cons_zero, List.set_cons_succ]
      refine takeH 10 16 (.agg (u8s D).toArray) hHeld rfl rfl (by kernel_rfl) (by kernel_rfl) (by kernel_rfl) (fun _ _ _ h => h) (Or.inl ⟨by rfl, fun w _ => by go_simp⟩) ?_
      simp only [Act.put, List.setIfInBounds_toArray, List.set_cons_zero, List.set_cons_succ]
      refine takeH 11 17 (.int .i64 N) hHeld rfl rfl (by kernel_rfl) (by kernel_rfl) (by kernel_rfl) (fun _ _ _ h => h) (Or.inl ⟨by rfl, fun w _ => by go_simp⟩) ?_
      simp only [Act.put, List.setIfInBounds_toArray, List.set_cons_zero, List.set_cons_succ]
      refine takeH 12 18 (.int .i64 E) hHeld rfl rfl (by kernel_rfl) (by kernel_rfl) (by kernel_rfl) (fun _ _ _ h => h) (Or.inl ⟨by rfl, fun w _ => by go_simp⟩) ?_
      simp only [Act.put, List.setIfInBounds_toArray, List.set_cons_zero, List.set_cons_succ]
      refine wpAnyH_ready (rs := [13]) (by kernel_rfl) (by simp) (AllReadyH.cons rfl (fun K hK => ?_) AllReadyH.nil)
      rw [if_pos (by rfl)]
      refine wp_allocG zD ?_
      intro v2 g3 hr3 hl3 hv2
      have G3 := hide hr3
      have Y2 := hide (on_below Y1.out hv2)
      have L3 : w1.heap.size ≤ g3 := Nat.le_trans Y1.out.size hl3
      refine hK.out _ _ Y2.out (fun hHeld => ?_)
      clear hK K
      try simp only [Act.put, List.setIfInBounds_toArray, List.set_cons_zero, List.set_cons_succ]
      refine wpAnyH_ready (rs := [14]) (by kernel_rfl) (by simp) (AllReadyH.cons rfl (fun K hK => ?_) AllReadyH.nil)
      rw [if_pos (by rfl)]
      refine wp_storeW wD rfl rfl rfl G3.out HDU.out (One.u8 _) (by rw [u8s_length, zer_length]; omega) ?_
      intro z1 hz1 hbz1
      rw [spl_full (by rw [HDU.out, u8s_length, zer_length])] at hz1
      have hbz := Y2.out.trans (hbz1.below L3)
      refine hK.out _ _ hbz (fun hHeld => ?_)
      clear hK K
      try simp only [Act.put, List.setIfInBounds_toArray, List.set_cons_zero, List.set_cons_succ]
      refine wpAnyH_ready (rs := [15]) (by kernel_rfl) (by simp) (AllReadyH.cons rfl (fun K hK => ?_) AllReadyH.nil)
      rw [if_pos (by rfl)]
      go_simp
      refine hK.out _ _ hbz (fun hHeld => ?_)
      clear hK K
      try simp only [Act.put, List.setIfInBounds_toArray, List.set_cons_zero, List.set_cons_succ]
      refine wpAnyH_ready (rs := [16]) (by kernel_rfl) (by simp) (AllReadyH.cons rfl (fun K hK => ?_) AllReadyH.nil)
      rw [if_pos (by rfl)]
      go_simp
      refine hK.out _ _ hbz (fun hHeld => ?_)
      clear hK K
      try simp only [Act.put, List.setIfInBounds_toArray, List.set_cons_zero, List.set_cons_succ]
      refine wpAnyH_done (by kernel_rfl) ?_ _
      exact hjoin _ _ ⟨hz1, L3, hbz⟩
    · rw [if_pos (by rfl)]
      refine wp_allocG zD ?_
      intro v1 g3 hr3 hl3 hv1
      have Y1 := hide (on_below Y0.out hv1)
      have L3 : w1.heap.size ≤ g3 := Nat.le_trans Y0.out.size hl3
      refine hK.out _ _ Y1.out (fun hHeld => ?_)
      clear hK K
      try simp only [Act.put, List.setIfInBounds_toArray, List.set_cons_zero, List.set_cons_succ]
      refine wpAnyH_ready (rs := [8]) (by kernel_rfl) (by simp) (AllReadyH.cons rfl (fun K hK => ?_) AllReadyH.nil)
      rw [if_pos (by rfl)]
      go_simp
      refine (HC.out _ (B1.out.trans (Y1.out.mono B1.out.size))).mono ?_
      rintro e v2 ⟨rfl, hv2⟩
      have Y2 := hide (on_below Y1.out hv2)
      have G3 := hide (hr3.on hv2)
      refine hK.out _ _ Y2.out (fun hHeld => ?_)
      clear hK K
      try simp only [Act.put, List.setIfInBounds_toArray, List.set_cons_zero, List.set_cons_succ]
      refine takeH 9 6 (.tuple #[.agg (u8s D).toArray, .int .i64 N, .int .i64 E]) hHeld rfl rfl (by kernel_rfl) (by kernel_rfl) (by kernel_rfl) (fun _ _ _ h => h) (Or.inl ⟨by rfl, fun w _ => by go_simp⟩) ?_
      simp only [Act.put, List.setIfInBounds_toArray, List.set_cons_zero, List.set_cons_succ]
      refine takeH 10 16 (.agg (u8s D).toArray) hHeld rfl rfl (by kernel_rfl) (by kernel_rfl) (by kernel_rfl) (fun _ _ _ h => h) (Or.inl ⟨by rfl, fun w _ => by go_simp⟩) ?_
      simp only [Act.put, List.setIfInBounds_toArray, List.set_cons_zero, List.set_cons_succ]
      refine takeH 11 17 (.int .i64 N) hHeld rfl rfl (by kernel_rfl) (by kernel_rfl) (by kernel_rfl) (fun _ _ _ h => h) (Or.inl ⟨by rfl, fun w _ => by go_simp⟩) ?_
      simp only [Act.put, List.setIfInBounds_toArray, List.set_cons_zero, List.set_cons_succ]
      refine takeH 12 18 (.int .i64 E) hHeld rfl rfl (by kernel_rfl) (by kernel_rfl) (by kernel_rfl) (fun _ _ _ h => h) (Or.inl ⟨by rfl, fun w _ => by go_simp⟩) ?_
      simp only [Act.put, List.setIfInBounds_toArray, List.set_cons_zero, List.set_cons_succ]
      refine wpAnyH_ready (rs := [14]) (by kernel_rfl) (by simp) (AllReadyH.cons rfl (fun K hK => ?_) AllReadyH.nil)
      rw [if_pos (by rfl)]
      refine wp_storeW wD rfl rfl rfl G3.out HDU.out (One.u8 _) (by rw [u8s_length, zer_length]; omega) ?_
      intro z1 hz1 hbz1
      rw [spl_full (by rw [HDU.out, u8s_length, zer_length])] at hz1
      have hbz := Y2.out.trans (hbz1.below L3)
      refine hK.out _ _ hbz (fun hHeld => ?_)
      clear hK K
      try simp only [Act.put, List.setIfInBounds_toArray, List.set_cons_zero, List.set_cons_succ]
      refine wpAnyH_ready (rs := [15]) (by kernel_rfl) (by simp) (AllReadyH.cons rfl (fun K hK => ?_) AllReadyH.nil)
      rw [if_pos (by rfl)]
      go_simp
      refine hK.out _ _ hbz (fun hHeld => ?_)
      clear hK K
      try simp only [Act.put, List.setIfInBounds_toArray, List.set_cons_zero, List.set_cons_succ]
      refine wpAnyH_ready (rs := [16]) (by kernel_rfl) (by simp) (AllReadyH.cons rfl (fun K hK => ?_) AllReadyH.nil)
      rw [if_pos (by rfl)]
      go_simp
      refine hK.out _ _ hbz (fun hHeld => ?_)
      clear hK K
      try simp only [Act.put, List.setIfInBounds_toArray, List.set_cons_zero, List.set_cons_succ]
      refine wpAnyH_done (by kernel_rfl) ?_ _
      exact hjoin _ _ ⟨hz1, L3, hbz⟩
  · rintro g3 W ⟨hr3, hl3, hbW⟩
    have GX := hide (GW.out.on hbW)
    have R2W := hide (R2.out.on hbW)
    have R3 := hide hr3
    have CH : Hid (Chg g w W) := hide (Chg.of_below (on_below B1.out hbW))
    obtain ⟨c0, c1⟩ := br_at GX.out
    have hfz := GX.out.free 1
    have n2 : g2 ≠ g := by omega
    have n3 : g3 ≠ g := by have := B1.out.size; omega
    have n23 : g2 ≠ g3 := by have := R2.out.lt; omega
    clear hr3 hl3 hbW HC GW R2 B1 G
    by_cases hE : E = 0
    · subst hE
      go_wp2_with fail
      refine (need_ok _).mono ?_
      rintro e w' ⟨rfl, rfl⟩
      have GN := hide (GX.out.set 1 (.int .i64 N))
      have BN := hide (But.setCell w' g 1 (.int .i64 N))
      have R2N := hide (R2W.out.but BN.out n2)
      have R3N := hide (R3.out.but BN.out n3)
      go_wp2_with (first | (refine step_loadA wD rfl rfl R3N.out HDU.out ?_) | (refine step_storeA wD rfl rfl rfl R2N.out HDU.out (One.u8 _) (by rw [u8s_length, zer_length]) ?_; intro w9 hg9 hbut9))
      refine bodyPost_ret (results_wide rfl wD _ _ rfl hg9 HDU.out) rfl ⟨rfl, GN.out.but hbut9 n2.symm, (CH.out.trans (Chg.of_but BN.out)).fresh hbut9 hl1⟩
    · have hne : (E == 0) = false := by simpa using hE
      go_wp2_with fail
      refine (need_no _).mono ?_
      rintro e w' ⟨rfl, rfl⟩
      exact ⟨rfl, fun h => absurd h hE, fun _ => ⟨rfl, CH.out⟩⟩
theorem dig_ok (g : Nat) (a : Option Addr) (len cap : Nat) (xs : List Int) (p : Nat) (w : World) (hg : Blk w g 77 (brC (.slice a len cap) (p : Int))) (hs : Sl w a len cap xs) (hp : p + 32 ≤ len) :
    Calls Tryd.prog 67 #[.pointer (some ⟨g, 0, none⟩)] w fun e w' => e = .returned (.agg (u8s ((xs.drop p).take 32)).toArray) ∧ Blk w' g 77 (brC (.slice a len cap) ((p + 32 : Nat) : Int)) ∧ Chg g w w' := by
  obtain ⟨b, off, rfl, _⟩ := hs.hcell (by omega)
  refine (dig_any g _ len cap (p : Int) ((p : Int) + 32) 0 ((xs.drop p).take 32) w hg (by rw [List.length_take, List.length_drop, hs.hlen]; omega) (fun V hV => octD_ok b off len cap xs p V (hs.below hV) hp)).mono ?_
  rintro e w' ⟨h, _⟩
  rw [show ((p + 32 : Nat) : Int) = (p : Int) + 32 by omega]
  exact h rfl
theorem dig_no (g : Nat) (a : Option Addr) (len cap : Nat) (p : Nat) (w : World) (hg : Blk w g 77 (brC (.slice a len cap) (p : Int))) (hl : len ≤ 140737488355328) (hp : len < p + 32) :
    Calls Tryd.prog 67 #[.pointer (some ⟨g, 0, none⟩)] w fun e w' => e = .panicked PE ∧ Chg g w w' := by
  refine (dig_any g _ len cap (p : Int) 0 (rdE len (p : Int) 32) (zer 32) w hg (zer_length 32) (fun V hV => octD_no a len cap (p : Int) V hl (by omega))).mono ?_
  rintro e w' ⟨_, h⟩
  exact h (rdE32_no hp)

/-- How many digests a proof has; none: there is no such proof. -/
def pcnt (k i n : Int) : Option Nat :=
  if k = 1 then (if 0 ≤ i ∧ i < n ∧ n ≤ 281474976710656 then some (hvL i.toNat 0 n.toNat).length else none)
  else if k = 2 then (if 1 ≤ i ∧ i ≤ n ∧ n ≤ 281474976710656 then some ((hvM i.toNat 0 n.toNat).length + ptM i.toNat 0 n.toNat) else none)
  else none
theorem pcnt_le {k i n : Int} {m : Nat} (h : pcnt k i n = some m) : m ≤ 49 := by
  unfold pcnt at h
  split at h
  · split at h
    · rename_i h1
      obtain rfl := Option.some.inj h
      have := hvL_few (i := i.toNat) (b := 0) (n := n.toNat) (Nat.zero_le _) (by omega) (by omega)
      omega
    · cases h
  · split at h
    · split at h
      · rename_i h1
        obtain rfl := Option.some.inj h
        have := hvM_few (m := i.toNat) (b := 0) (n := n.toNat) (by omega) (by omega) (by omega) (by omega)
        have := ptM_le i.toNat 0 n.toNat
        omega
      · cases h
    · cases h
/-- The cells of a proof. -/
def pfC (k i n : Int) (v : Value) : List Value := [.int .i64 k, .int .i64 i, .int .i64 n, v]
theorem wP : Wide 48 4 := ⟨by kernel_rfl, by kernel_rfl⟩
theorem zP : Zeroed 48 (pfC 0 0 0 (.slice none 0 0)) := fun _ _ _ _ _ _ _ => by kernel_rfl
theorem pf_at {w : World} {g : Nat} {t : TypeId} {k i n : Int} {v : Value} (h : Blk w g t (pfC k i n v)) : w.cell? ⟨g, 0, none⟩ = some (.int .i64 k) ∧ w.cell? ⟨g, 1, none⟩ = some (.int .i64 i) ∧ w.cell? ⟨g, 2, none⟩ = some (.int .i64 n) ∧ w.cell? ⟨g, 3, none⟩ = some v :=
  ⟨by rw [h.cell]; rfl, by rw [h.cell]; rfl, by rw [h.cell]; rfl, by rw [h.cell]; rfl⟩
theorem lengthV (i n : Int) (w : World) : ∃ m : Nat, ∃ E : Int, ((E = 0 ∧ pcnt 1 i n = some m) ∨ (E ≠ 0 ∧ m = 0 ∧ pcnt 1 i n = none)) ∧ (∀ V : World, Calls Tryd.prog 88 #[.int .i64 i, .int .i64 n] V fun r w' => r = .returned (.tuple #[.int .i64 (m : Int), .int .i64 E]) ∧ Below V.heap.size V w') ∧
    ∀ V : World, Calls Tryd.prog 77 #[.int .i64 i, .int .i64 n] V fun r w' => r = .returned (.tuple #[.int .i64 (m : Int), .int .i64 E]) ∧ w' = V := by
  by_cases h : 0 ≤ i ∧ i < n ∧ n ≤ 281474976710656
  · obtain ⟨a, rfl⟩ := Int.eq_ofNat_of_zero_le h.1
    obtain ⟨b, rfl⟩ := Int.eq_ofNat_of_zero_le (show 0 ≤ n by omega)
    exact ⟨(hvL a 0 b).length, 0, .inl ⟨rfl, by unfold pcnt; rw [if_pos rfl, if_pos h]; rfl⟩, fun V => length_ok a b V (by omega) (by omega), fun V => lengthR_ok a b V (by omega) (by omega)⟩
  · exact ⟨0, 40, .inr ⟨by decide, rfl, by unfold pcnt; rw [if_pos rfl, if_neg h]⟩, fun V => length_bad i n V (by omega), fun V => lengthR_bad i n V (by omega)⟩
theorem stepsV (i n : Int) (w : World) : ∃ m : Nat, ∃ E : Int, ((E = 0 ∧ pcnt 2 i n = some m) ∨ (E ≠ 0 ∧ m = 0 ∧ pcnt 2 i n = none)) ∧ (∀ V : World, Calls Tryd.prog 89 #[.int .i64 i, .int .i64 n] V fun r w' => r = .returned (.tuple #[.int .i64 (m : Int), .int .i64 E]) ∧ Below V.heap.size V w') ∧
    ∀ V : World, Calls Tryd.prog 75 #[.int .i64 i, .int .i64 n] V fun r w' => r = .returned (.tuple #[.int .i64 (m : Int), .int .i64 E]) ∧ w' = V := by
  by_cases h : 1 ≤ i ∧ i ≤ n ∧ n ≤ 281474976710656
  · obtain ⟨a, rfl⟩ := Int.eq_ofNat_of_zero_le (show 0 ≤ i by omega)
    obtain ⟨b, rfl⟩ := Int.eq_ofNat_of_zero_le (show 0 ≤ n by omega)
    exact ⟨(hvM a 0 b).length + ptM a 0 b, 0, .inl ⟨rfl, by unfold pcnt; rw [if_neg (by decide), if_pos rfl, if_pos h]; rfl⟩, fun V => steps_ok a b V (by omega) (by omega) (by omega), fun V => stepsR_ok a b V (by omega) (by omega) (by omega)⟩
  · exact ⟨0, 40, .inr ⟨by decide, rfl, by unfold pcnt; rw [if_neg (by decide), if_pos rfl, if_neg h]⟩, fun V => steps_bad i n V (by omega), fun V => stepsR_bad i n V (by omega)⟩

end Go.Proofs.YtconeobaohmbnaaDoor

/-
  How many digests a proof has: wire.digestsOf, the document's count; whether it may be: Valid of both.
-/
namespace Go.Proofs.YtconeobaohmbnaaDoor
open Go.RowKit
set_option linter.unusedVariables false
set_option linter.unusedSimpArgs false

set_option maxRecDepth 100000 in
theorem dgs_any (k i n : Int) (v : Value) (w : World) :
    Calls Tryd.prog 65 #[.agg (pfC k i n v).toArray] w fun r w' => r = .returned (.tuple #[.int .i64 (((pcnt k i n).getD 0 : Nat) : Int), .bool (pcnt k i n).isSome]) ∧ Below w.heap.size w w' := by
  by_cases h1 : k = 1
  · subst h1
    obtain ⟨m, E, hme, hp, _⟩ := lengthV i n w
    rcases hme with ⟨rfl, hm⟩ | ⟨hE, rfl, hm⟩
    · rw [hm]
      have HP := hide hp
      clear hp hm
      go_enter Tryd.func65, Tryd.ntmps65
      go_wp2_with (first | (refine step_box (cs := pfC 1 i n v) rfl rfl ?_; intro w1 g1 hg1 hle1 hb1; obtain ⟨c0, c1, c2', c3⟩ := pf_at hg1; clear hg1) | fail)
      refine (HP.out _).mono ?_
      rintro r w3 ⟨rfl, hb3⟩
      skip
      go_wp2
      go_ret2
      exact ⟨rfl, on_below hb1 hb3⟩
    · rw [hm]
      have hE' : (E == 0) = false := by simpa using hE
      have HP := hide hp
      clear hp hm
      go_enter Tryd.func65, Tryd.ntmps65
      go_wp2_with (first | (refine step_box (cs := pfC 1 i n v) rfl rfl ?_; intro w1 g1 hg1 hle1 hb1; obtain ⟨c0, c1, c2', c3⟩ := pf_at hg1; clear hg1) | fail)
      refine (HP.out _).mono ?_
      rintro r w3 ⟨rfl, hb3⟩
      skip
      go_wp2
      go_ret2
      exact ⟨rfl, on_below hb1 hb3⟩
  · by_cases h2 : k = 2
    · subst h2
      obtain ⟨m, E, hme, hp, _⟩ := stepsV i n w
      rcases hme with ⟨rfl, hm⟩ | ⟨hE, rfl, hm⟩
      · rw [hm]
        have HP := hide hp
        clear hp hm
        go_enter Tryd.func65, Tryd.ntmps65
        go_wp2_with (first | (refine step_box (cs := pfC 2 i n v) rfl rfl ?_; intro w1 g1 hg1 hle1 hb1; obtain ⟨c0, c1, c2', c3⟩ := pf_at hg1; clear hg1) | fail)
        refine (HP.out _).mono ?_
        rintro r w3 ⟨rfl, hb3⟩
        skip
        go_wp2
        go_ret2
        exact ⟨rfl, on_below hb1 hb3⟩
      · rw [hm]
        have hE' : (E == 0) = false := by simpa using hE
        have HP := hide hp
        clear hp hm
        go_enter Tryd.func65, Tryd.ntmps65
        go_wp2_with (first | (refine step_box (cs := pfC 2 i n v) rfl rfl ?_; intro w1 g1 hg1 hle1 hb1; obtain ⟨c0, c1, c2', c3⟩ := pf_at hg1; clear hg1) | fail)
        refine (HP.out _).mono ?_
        rintro r w3 ⟨rfl, hb3⟩
        skip
        go_wp2
        go_ret2
        exact ⟨rfl, on_below hb1 hb3⟩
    · skip
      have hn : pcnt k i n = none := by unfold pcnt; rw [if_neg h1, if_neg h2]
      rw [hn]
      have k1 : (k == 1) = false := by simpa using h1
      have k2 : (k == 2) = false := by simpa using h2
      clear hn
      go_enter Tryd.func65, Tryd.ntmps65
      go_wp2_with (first | (refine step_box (cs := pfC k i n v) rfl rfl ?_; intro w1 g1 hg1 hle1 hb1; obtain ⟨c0, c1, c2', c3⟩ := pf_at hg1; clear hg1) | fail)
      go_ret2
      exact ⟨rfl, hb1⟩

/-- Whether a proof may be. -/
def pval (k i n : Int) (m : Nat) : Bool := decide (pcnt k i n = some m)
set_option maxRecDepth 100000 in
theorem valid_any (k i n : Int) (a : Option Addr) (m cap : Nat) (w : World) (hm : m ≤ 9223372036854775807) :
    Calls Tryd.prog 60 #[.agg (pfC k i n (.slice a m cap)).toArray] w fun r w' => r = .returned (.bool (pval k i n m)) ∧ Below w.heap.size w w' := by
  obtain ⟨c, hc⟩ : ∃ c, pcnt k i n = c := ⟨_, rfl⟩
  have hle : ∀ q, c = some q → q ≤ 49 := fun q hq => pcnt_le (hc.trans hq)
  have HP := hide (fun V => dgs_any k i n (.slice a m cap) V)
  unfold pval
  rw [hc] at HP ⊢
  clear hc
  cases c with
  | none =>
    go_enter Tryd.func60, Tryd.ntmps60
    go_wp2_with (first | (refine step_box (cs := pfC k i n (.slice a m cap)) rfl rfl ?_; intro w1 g1 hg1 hle1 hb1; obtain ⟨c0, c1, c2', c3⟩ := pf_at hg1; have HG := hide hg1; clear hg1) | (refine step_loadA wP rfl rfl HG.out rfl ?_) | fail)
    refine (HP.out _).mono ?_
    rintro r w3 ⟨rfl, hb3⟩
    go_wp2
    go_ret
    exact ⟨by simp, on_below hb1 hb3⟩
  | some q =>
    have hq := hle q rfl
    have hd : decide (some q = some m) = ((m : Int) == (q : Int)) := by
      by_cases h : q = m
      · subst h; simp
      · have : ¬ (m : Int) = (q : Int) := by omega
        simp [h, this]
    rw [hd]
    clear hd hle
    go_enter Tryd.func60, Tryd.ntmps60
    go_wp2_with (first | (refine step_box (cs := pfC k i n (.slice a m cap)) rfl rfl ?_; intro w1 g1 hg1 hle1 hb1; obtain ⟨c0, c1, c2', c3⟩ := pf_at hg1; have HG := hide hg1; clear hg1) | (refine step_loadA wP rfl rfl HG.out rfl ?_) | fail)
    refine (HP.out _).mono ?_
    rintro r w3 ⟨rfl, hb3⟩
    have d3 := cell_kept c3 hb3
    go_wp2
    go_ret
    exact ⟨rfl, on_below hb1 hb3⟩

end Go.Proofs.YtconeobaohmbnaaDoor

/-
  wire: the proof that a reader of bytes tells, or that it gives up.
-/
namespace Go.Proofs.YtconeobaohmbnaaDoor
open Go.RowKit
set_option linter.unusedVariables false
set_option linter.unusedSimpArgs false

theorem zcell (n i : Nat) (h : i < n) : (u8s (zer n)).toArray[i]! = .int .u8 0 := by
  rw [getElem!_pos _ _ (by simpa [u8s, zer] using h)]
  simp [u8s, zer]
theorem madeD_zer (n : Nat) : madeCells (u8s (zer 32)).toArray n = (u8s (zer n)).toArray := by
  apply Array.ext
  · simp [size_madeCells, u8s_length, zer_length]
  · intro i h1 h2
    have hi : i % 32 < 32 := Nat.mod_lt _ (by decide)
    simp only [madeCells, Array.getElem_map, Array.getElem_range]
    have hsz : (u8s (zer 32)).toArray.size = 32 := by simp [u8s_length, zer_length]
    rw [hsz]
    have e1 : (u8s (zer 32)).toArray[i % 32]! = .int .u8 0 := zcell 32 _ hi
    rw [e1]
    simp [u8s, zer]
section
variable {dst : Option Tmp} {ty : TypeId} {pos : String} {aft : Array Edge} {gd : Option (Nat × Bool)} {ops : Array Oper} {rest : List Oper} {a : Act} {w : World} {Q : Exit → Act → World → Prop}
/-- make of a slice of digests. -/
theorem step_makeD {l c : Operand} {L C : Int} (n : Nat) (hw : Region.wanted ⟨dst, .makeSlice 24 l c, ty, pos, aft, gd⟩ (yielded ops a.tmps) = true)
    (hl : a.eval l = .int .i64 L) (hc : a.eval c = .int .i64 C) (hL : L = (n : Int)) (hC : C = (n : Int)) (hn : n ≤ 4398046511104)
    (h : ∀ w1 g, Blk w1 g 23 (u8s (zer (n * 32))) → w.heap.size ≤ g → Below w.heap.size w w1 → wpList Tryd.prog ops Q rest (a.put dst (.slice (some ⟨g, 0, none⟩) n n)) w1) :
    wpList Tryd.prog ops Q (⟨dst, .makeSlice 24 l c, ty, pos, aft, gd⟩ :: rest) a w := by
  obtain ⟨i0, hi, hz0, hz1, hz2⟩ := info_parts infoD
  subst hL hC
  refine step_run hw (.slice (some ⟨w.heap.size, 0, none⟩) n n) (w.alloc (.cells (u8s (zer (n * 32))).toArray 23)) ?_ (h _ _ (Blk.made _ _ _) (Nat.le_refl _) ((Below.refl _ _).alloc (Nat.le_refl _) _))
  have hr := run_make (P := Tryd.prog) w 24 23 i0 _ undDl hi hz0 .i64 .i64 (n : Int) (n : Int) (by omega) (Int.le_refl _) (by rw [hz2]; omega) (by omega)
  rw [hz1] at hr
  simp only [Value.cells, Int.toNat_natCast, madeD_zer] at hr
  simp [execOp, hl, hc, hr, Result.andThen]
end
/-- Bytes that are a proof's with n digests. -/
structure DkOK (xs : List Int) (n : Nat) : Prop where
  len : xs.length = 18 + 32 * n
  f : rdV xs 1 8 ≤ 281474976710656
  s : rdV xs 9 8 ≤ 281474976710656
  c : pcnt (xs.getD 0 0) (rdV xs 1 8) (rdV xs 9 8) = some n
  t : xs.getD 17 0 = (n : Int)
/-- Bytes that are no proof's. -/
def DkNo (xs : List Int) : Prop := ∀ n, ¬ DkOK xs n
theorem build_pf (K : Int) (w : World) (ev : Operand → Value) (x : Operand) (dst : Option Tmp) (ty : TypeId) (pos : String) (aft : Array Edge) (gd : Option (Nat × Bool)) (hx : ev x = .int .i64 K) :
    (execOp ev ⟨dst, .build 48 #[(0, x)], ty, pos, aft, gd⟩).run Tryd.prog w = .ok (.value (.agg (pfC K 0 0 (.slice none 0 0)).toArray)) w := by
  simp only [execOp, List.map_toArray, List.map_cons, List.map_nil, hx]
  kernel_rfl
section
variable {dst : Option Tmp} {ty : TypeId} {pos : String} {aft : Array Edge} {gd : Option (Nat × Bool)} {ops : Array Oper} {rest : List Oper} {a : Act} {w : World} {Q : Exit → Act → World → Prop}
theorem step_buildP {x : Operand} {K : Int} (hw : Region.wanted ⟨dst, .build 48 #[(0, x)], ty, pos, aft, gd⟩ (yielded ops a.tmps) = true) (hx : a.eval x = .int .i64 K)
    (h : wpList Tryd.prog ops Q rest (a.put dst (.agg (pfC K 0 0 (.slice none 0 0)).toArray)) w) : wpList Tryd.prog ops Q (⟨dst, .build 48 #[(0, x)], ty, pos, aft, gd⟩ :: rest) a w :=
  step_run hw _ w (build_pf K w a.eval x dst ty pos aft gd hx) h
end
theorem One.pf (k i n : Int) (a : Option Addr) (l c : Nat) : One (pfC k i n (.slice a l c)) := by
  intro v hv
  simp only [pfC, List.mem_cons, List.not_mem_nil, or_false] at hv
  rcases hv with rfl | rfl | rfl | rfl <;> rfl
theorem numI (g : Nat) (a : Option Addr) (len cap : Nat) (xs : List Int) (p : Nat) (P Z : Int) (w : World) (hP : P = (p : Int)) (hZ : Z = ((p + 8 : Nat) : Int)) (hg : Blk w g 77 (brC (.slice a len cap) P)) (hs : Sl w a len cap xs) (hp : p + 8 ≤ len) (hm : rdV xs P 8 ≤ 281474976710656) :
    Calls Tryd.prog 64 #[.pointer (some ⟨g, 0, none⟩)] w fun e w' => e = .returned (.int .i64 (rdV xs P 8)) ∧ Blk w' g 77 (brC (.slice a len cap) Z) ∧ But g w w' := by
  subst hP hZ
  exact num_ok g a len cap xs p w hg hs hp hm
theorem numI_no (g : Nat) (a : Option Addr) (len cap : Nat) (xs : List Int) (p : Nat) (P : Int) (w : World) (hP : P = (p : Int)) (hg : Blk w g 77 (brC (.slice a len cap) P)) (hs : Sl w a len cap xs) (hp : len < p + 8 ∨ 281474976710656 < rdV xs P 8) :
    Calls Tryd.prog 64 #[.pointer (some ⟨g, 0, none⟩)] w fun e w' => e = .panicked PE ∧ But g w w' := by
  subst hP
  exact num_no g a len cap xs p w hg hs hp
theorem oneI (g : Nat) (a : Option Addr) (len cap : Nat) (xs : List Int) (p : Nat) (P Z : Int) (w : World) (hP : P = (p : Int)) (hZ : Z = ((p + 1 : Nat) : Int)) (hg : Blk w g 77 (brC (.slice a len cap) P)) (hs : Sl w a len cap xs) (hp : p < len) :
    Calls Tryd.prog 63 #[.pointer (some ⟨g, 0, none⟩)] w fun e w' => e = .returned (.int .i64 (xs.getD p 0)) ∧ Blk w' g 77 (brC (.slice a len cap) Z) ∧ But g w w' := by
  subst hP hZ
  exact one_ok g a len cap xs p w hg hs hp
/-- What stands while a proof is read. -/
structure PV (w W : World) (g g2 g3 : Nat) (a : Option Addr) (len cap : Nat) (xs : List Int) (p : Int) (cs : List Value) : Prop where
  r : Blk W g 77 (brC (.slice a len cap) p)
  s : Sl W a len cap xs
  r2 : Blk W g2 48 (pfC 0 0 0 (.slice none 0 0))
  r3 : Blk W g3 48 cs
  ch : Chg g w W
  gl : g < w.heap.size
  l2 : w.heap.size ≤ g2
  l3 : w.heap.size ≤ g3
  n23 : g2 ≠ g3
section
variable {w W W' : World} {g g2 g3 : Nat} {a : Option Addr} {len cap : Nat} {xs : List Int} {p p' : Int} {cs cs' : List Value}
theorem PV.rd (h : PV w W g g2 g3 a len cap xs p cs) (hc : Chg g W W') (hg : Blk W' g 77 (brC (.slice a len cap) p')) : PV w W' g g2 g3 a len cap xs p' cs := by
  have := h.gl; have := h.l2; have := h.l3
  exact ⟨hg, h.s.chg hc (br_apart (n := 0) h.r h.s), h.r2.chg hc (by omega), h.r3.chg hc (by omega), h.ch.trans hc, h.gl, h.l2, h.l3, h.n23⟩
theorem PV.on (h : PV w W g g2 g3 a len cap xs p cs) (hb : Below W.heap.size W W') : PV w W' g g2 g3 a len cap xs p cs :=
  ⟨h.r.on hb, h.s.below hb, h.r2.on hb, h.r3.on hb, h.ch.trans (Chg.of_below hb), h.gl, h.l2, h.l3, h.n23⟩
theorem pf_apart {t : TypeId} {k i n : Int} {q : Option Addr} {m c : Nat} (h : Blk W g3 t (pfC k i n (.slice q m c))) (hs : Sl W a len cap xs) : 0 < len → Apart g3 a := fun h0 x hx e => by
  obtain ⟨b, off, rfl, hce⟩ := hs.hcell h0
  obtain rfl := Option.some.inj hx
  simp only at e
  subst e
  have := hce 0 h0
  rw [h.cell] at this
  rcases hq : off + 0 with _ | _ | _ | _ | k <;> rw [hq] at this
  · cases this
  · cases this
  · cases this
  · cases this
  · rw [List.getElem?_eq_none (by simp [pfC])] at this
    cases this
theorem PV.set {k i n : Int} {q : Option Addr} {m c : Nat} (h : PV w W g g2 g3 a len cap xs p (pfC k i n (.slice q m c))) (hb : But g3 W W') (hg : Blk W' g3 48 cs') : PV w W' g g2 g3 a len cap xs p cs' := by
  have := h.gl; have := h.l3
  exact ⟨h.r.but hb (by omega), h.s.but hb (pf_apart h.r3 h.s), h.r2.but hb h.n23, hg, h.ch.fresh hb h.l3, h.gl, h.l2, h.l3, h.n23⟩
end
theorem DOwn.of_blk {w : World} {g B n : Nat} {xs : List Int} (h : Blk w g 23 (u8s xs)) (hB : B ≤ g) (hl : xs.length = n * 32) (hn : n ≤ 4398046511104) : DOwn w B (.slice (some ⟨g, 0, none⟩) n n) n xs :=
  ⟨by rw [u8s_length, hl], .inr ⟨g, n, (u8s xs).toArray, rfl, hB, h, Nat.le_refl _, by unfold maxLen; omega, by simp [u8s_length, hl], by simp only [List.size_toArray]; rw [List.take_of_length_le (by rw [u8s_length, hl]; exact Nat.le_refl _)]⟩⟩
theorem spl_then (cs vs us : List Value) (h : vs.length + us.length ≤ cs.length) : spl (spl cs vs 0) us vs.length = spl cs (vs ++ us) 0 := by
  unfold spl
  simp only [List.take_zero, List.nil_append, Nat.zero_add]
  rw [List.take_left, ← List.drop_drop, List.drop_left, List.drop_drop, List.length_append, List.append_assoc]
theorem take_more (ys : List Int) (k : Nat) : ys.take (32 * (k + 1)) = ys.take (32 * k) ++ (ys.drop (32 * k)).take 32 := by
  rw [show 32 * (k + 1) = 32 * k + 32 by omega, List.take_add]
theorem spl_dig (xs : List Int) (n k : Nat) (hk : k < n) (hx : 18 + 32 * (k + 1) ≤ xs.length) :
    spl (spl (u8s (zer (n * 32))) (u8s ((xs.drop 18).take (32 * k))) 0) (u8s ((xs.drop (18 + 32 * k)).take 32)) (32 * k) = spl (u8s (zer (n * 32))) (u8s ((xs.drop 18).take (32 * (k + 1)))) 0 := by
  have h1 : (u8s ((xs.drop 18).take (32 * k))).length = 32 * k := by rw [u8s_length, List.length_take, List.length_drop]; omega
  have h2 : (u8s ((xs.drop (18 + 32 * k)).take 32)).length = 32 := by rw [u8s_length, List.length_take, List.length_drop]; omega
  have e := spl_then (u8s (zer (n * 32))) (u8s ((xs.drop 18).take (32 * k))) (u8s ((xs.drop (18 + 32 * k)).take 32)) (by rw [h1, h2, u8s_length, zer_length]; omega)
  rw [h1] at e
  rw [e, take_more, ← u8s_app, List.drop_drop]

set_option maxRecDepth 100000 in
set_option maxHeartbeats 2000000 in
theorem proof_any (g : Nat) (a : Option Addr) (len cap : Nat) (xs : List Int) (w : World) (hg : Blk w g 77 (brC (.slice a len cap) 0)) (hs : Sl w a len cap xs) :
    Calls Tryd.prog 44 #[.pointer (some ⟨g, 0, none⟩)] w fun e w' => Chg g w w' ∧ ((DkNo xs ∧ e = .panicked PE) ∨
      ∃ n v, DkOK xs n ∧ e = .returned (.agg (pfC (xs.getD 0 0) (rdV xs 1 8) (rdV xs 9 8) v).toArray) ∧ DOwn w' w.heap.size v n (xs.drop 18)) := by
  have hr := hs.hreach
  have G := hide hg
  have S := hide hs
  have HL := hide hs.hlen
  have SA := hide hs.lt
  clear hg hs
  go_enter Tryd.func44, Tryd.ntmps44
  go_wp2_with (refine step_alloc zP rfl ?_)
  intro w1 g2 hr1 hl1 hb1
  have B1 := hide hb1
  have R2 := hide hr1
  have hgl : g < w.heap.size := G.out.lt
  replace G := hide (G.out.on hb1)
  replace S := hide (S.out.below hb1)
  clear hr1 hb1
  go_wp2_with fail
  by_cases h1 : 0 < len
  rotate_left
  · refine (one_no g a len cap 0 w1 G.out (by omega) (by omega)).mono ?_
    rintro e w2 ⟨rfl, hb2⟩
    refine ⟨rfl, (Chg.of_below B1.out).trans (Chg.of_but hb2), .inl ⟨fun n h => ?_, rfl⟩⟩
    have := h.len
    rw [HL.out] at this
    omega
  refine (one_ok g a len cap xs 0 w1 G.out S.out h1).mono ?_
  rintro e w2 ⟨rfl, hg2, hb2⟩
  obtain ⟨k0, hk0⟩ : ∃ z, xs.getD 0 0 = z := ⟨_, rfl⟩
  rw [hk0]
  have S2 := hide (S.out.but hb2 (br_apart (n := 0) G.out S.out))
  have R2b := hide (R2.out.but hb2 (by omega))
  have G2 := hide hg2
  have CH2 : Hid (Chg g w w2) := hide ((Chg.of_below B1.out).trans (Chg.of_but hb2))
  have hsz2 := hb2.size
  have hb1s := B1.out.size
  clear hg2 hb2 G S R2
  go_wp2_with (first | (refine step_buildP rfl rfl ?_) | (refine step_alloc zP rfl ?_; intro w3 g3 hr3 hl3 hb3; have G3 := hide hr3; clear hr3) | (refine step_storeA wP rfl rfl rfl G3.out rfl (One.pf _ _ _ _ _ _) rfl ?_; intro w4 hg4 hbut4))
  have P : Hid (PV w w4 g g2 g3 a len cap xs 1 (pfC k0 0 0 (.slice none 0 0))) := hide (by
    have := G2.out.lt
    have := R2b.out.lt
    exact ⟨(G2.out.on hb3).but hbut4 (by omega), (S2.out.below hb3).but hbut4 (S2.out.apart hl3), (R2b.out.on hb3).but hbut4 (by omega), hg4, (CH2.out.trans (Chg.of_below hb3)).fresh hbut4 (by omega), hgl, hl1, by omega, by omega⟩)
  clear hg4 hbut4 hb3 hl3 G3 G2 S2 R2b CH2 B1 hsz2 hb1s
  by_cases h2 : 9 ≤ len ∧ rdV xs 1 8 ≤ 281474976710656
  rotate_left
  · refine (numI_no g a len cap xs 1 1 _ rfl P.out.r P.out.s (by omega)).mono ?_
    rintro e w5 ⟨rfl, hb5⟩
    refine ⟨rfl, P.out.ch.trans (Chg.of_but hb5), .inl ⟨fun n h => h2 ⟨?_, h.f⟩, rfl⟩⟩
    have := h.len
    rw [HL.out] at this
    omega
  refine (numI g a len cap xs 1 1 9 _ rfl rfl P.out.r P.out.s (by omega) h2.2).mono ?_
  rintro e w5 ⟨rfl, hg5, hb5⟩
  obtain ⟨f0, hf0⟩ : ∃ z, rdV xs 1 8 = z := ⟨_, rfl⟩
  rw [hf0] at h2 ⊢
  replace P := hide (P.out.rd (Chg.of_but hb5) hg5)
  clear hg5 hb5
  obtain ⟨c30, c31, c32, c33⟩ := pf_at P.out.r3
  have hz1 := P.out.r3.free 1
  have P5 := hide (P.out.set (But.setCell w5 g3 1 (.int .i64 f0)) (P.out.r3.set 1 (.int .i64 f0)))
  go_wp2_with fail
  by_cases h3 : 17 ≤ len ∧ rdV xs 9 8 ≤ 281474976710656
  rotate_left
  · refine (numI_no g a len cap xs 9 9 _ rfl P5.out.r P5.out.s (by omega)).mono ?_
    rintro e w6 ⟨rfl, hb6⟩
    refine ⟨rfl, P5.out.ch.trans (Chg.of_but hb6), .inl ⟨fun n h => h3 ⟨?_, h.s⟩, rfl⟩⟩
    have := h.len
    rw [HL.out] at this
    omega
  refine (numI g a len cap xs 9 9 17 _ rfl rfl P5.out.r P5.out.s (by omega) h3.2).mono ?_
  rintro e w6 ⟨rfl, hg6, hb6⟩
  obtain ⟨s0, hs0⟩ : ∃ z, rdV xs 9 8 = z := ⟨_, rfl⟩
  rw [hs0] at h3 ⊢
  have P6 := hide (P5.out.rd (Chg.of_but hb6) hg6)
  clear hg6 hb6 P P5 c30 c31 c32 c33 hz1
  obtain ⟨c30, c31, c32, c33⟩ := pf_at P6.out.r3
  have hz2 := P6.out.r3.free 2
  have P7 : Hid (PV w (w6.setCell ⟨g3, 2, none⟩ (.int .i64 s0)) g g2 g3 a len cap xs 17 (pfC k0 f0 s0 (.slice none 0 0))) := hide (P6.out.set (But.setCell w6 g3 2 (.int .i64 s0)) (P6.out.r3.set 2 (.int .i64 s0)))
  go_wp2_with (first | (refine step_loadA wP rfl rfl P7.out.r3 rfl ?_) | fail)
  refine (dgs_any k0 f0 s0 _ _).mono ?_
  rintro r w8 ⟨rfl, hb8⟩
  have P8 := hide (P7.out.on hb8)
  clear hb8 P7 P6 c30 c31 c32 c33 hz2
  obtain ⟨c, hc⟩ : ∃ c, pcnt k0 f0 s0 = c := ⟨_, rfl⟩
  rw [hc]
  cases c with
  | none =>
    go_wp2_with fail
    refine (need_no _).mono ?_
    rintro e w9 ⟨rfl, rfl⟩
    refine ⟨rfl, P8.out.ch, .inl ⟨fun n h => ?_, rfl⟩⟩
    have := h.c
    rw [hk0, hf0, hs0, hc] at this
    cases this
  | some n =>
    have hn49 := pcnt_le hc
    go_wp2_with fail
    by_cases h4 : 17 < len
    rotate_left
    · refine (one_no g a len cap 17 _ P8.out.r (by omega) (by omega)).mono ?_
      rintro e w9 ⟨rfl, hb9⟩
      refine ⟨rfl, P8.out.ch.trans (Chg.of_but hb9), .inl ⟨fun n h => ?_, rfl⟩⟩
      have := h.len
      rw [HL.out] at this
      omega
    refine (oneI g a len cap xs 17 17 18 _ rfl rfl P8.out.r P8.out.s h4).mono ?_
    rintro e w9 ⟨rfl, hg9, hb9⟩
    have P9 := hide (P8.out.rd (Chg.of_but hb9) hg9)
    clear hg9 hb9 P8
    obtain ⟨t0, ht0⟩ : ∃ z, xs.getD 17 0 = z := ⟨_, rfl⟩
    rw [ht0]
    by_cases h5 : t0 = (n : Int)
    rotate_left
    · have h5' : (t0 == (n : Int)) = false := by simpa using h5
      go_wp2_with fail
      refine (need_no _).mono ?_
      rintro e w10 ⟨rfl, rfl⟩
      refine ⟨rfl, P9.out.ch, .inl ⟨fun m h => ?_, rfl⟩⟩
      have h6 := h.c
      rw [hk0, hf0, hs0, hc] at h6
      obtain rfl := Option.some.inj h6
      have := h.t
      rw [ht0] at this
      exact h5 this
    subst h5
    go_wp2_with fail
    refine (need_ok _).mono ?_
    rintro e w10 ⟨rfl, rfl⟩
    obtain ⟨c30, c31, c32, c33⟩ := pf_at P9.out.r3
    go_wp2_with (refine step_makeD n rfl rfl rfl rfl rfl (by omega) ?_)
    intro w11 gs hrs hls hbs
    have P11 := hide (P9.out.on hbs)
    have hg3 := P9.out.r3.lt
    have hg2l := P9.out.r2.lt
    have hgsl : w.heap.size ≤ gs := Nat.le_trans P9.out.ch.size hls
    have GS := hide hrs
    clear hrs hbs P9 c30 c31 c32 c33
    obtain ⟨c30, c31, c32, c33⟩ := pf_at P11.out.r3
    have hz3 := P11.out.r3.free 3
    have PW : Hid (PV w (w11.setCell ⟨g3, 3, none⟩ (.slice (some ⟨gs, 0, none⟩) n n)) g g2 g3 a len cap xs 18 (pfC k0 f0 s0 (.slice (some ⟨gs, 0, none⟩) n n))) := hide (P11.out.set (But.setCell w11 g3 3 _) (P11.out.r3.set 3 (.slice (some ⟨gs, 0, none⟩) n n)))
    have GW := hide (GS.out.but (But.setCell w11 g3 3 (.slice (some ⟨gs, 0, none⟩) n n)) (show gs ≠ g3 by omega))
    have n3 : g3 ≠ gs := by omega
    have e33 := (pf_at PW.out.r3).2.2.2
    have ng : g ≠ gs := by omega
    have n2 : g2 ≠ gs := by omega
    clear GS hls hg3 hg2l
    go_wp2_with fail
    generalize w11.setCell ⟨g3, 3, none⟩ (.slice (some ⟨gs, 0, none⟩) n n) = w12 at *
    clear P11 c30 c31 c32 c33 hz3 e33
    go_loopw [35] (fun i W => ∃ k : Nat, k ≤ n ∧ 18 + 32 * k ≤ len ∧ i = .int .i64 (k : Int) ∧ PV w W g g2 g3 a len cap xs ((18 + 32 * k : Nat) : Int) (pfC k0 f0 s0 (.slice (some ⟨gs, 0, none⟩) n n)) ∧ Blk W gs 23 (spl (u8s (zer (n * 32))) (u8s ((xs.drop 18).take (32 * k))) 0)) (fun i _ => n - (intOf i).toNat)
    case atStart => exact ⟨0, by omega, by omega, rfl, PW.out, by simpa [spl, u8s] using GW.out⟩
    case round =>
      obtain ⟨k, hkn, hkl, rfl, hP, hG⟩ := hrel
      have P := hide hP
      have GS := hide hG
      clear hP hG PW GW
      by_cases hlt : k < n
      · have hlt' : (k : Int) < (n : Int) := by omega
        have c33 := (pf_at P.out.r3).2.2.2
        go_wp2_with fail
        refine wp_region_held_drew (S := fun v : World => v.cell? ⟨g3, 3, none⟩ = some (.slice (some ⟨gs, 0, none⟩) n n)) (by kernel_rfl) c33 (fun hHeld => ?_)
        refine takeH 0 38 (.pointer (some ⟨g3, 3, none⟩)) hHeld rfl rfl (by kernel_rfl) (by kernel_rfl) (by kernel_rfl) (fun _ _ _ h => h) (Or.inl ⟨by rfl, fun w _ => by go_simp⟩) ?_
        simp only [Act.put, List.setIfInBounds_toArray, List.set_cons_zero, List.set_cons_succ]
        refine takeH 1 39 (.slice (some ⟨gs, 0, none⟩) n n) hHeld rfl rfl (by kernel_rfl) (by kernel_rfl) (by kernel_rfl) (fun _ _ _ h => h) (Or.inl ⟨by rfl, fun w hw => by have hw' : w.cell? ⟨g3, 3, none⟩ = some (.slice (some ⟨gs, 0, none⟩) n n) := id hw; go_simp⟩) ?_
        simp only [Act.put, List.setIfInBounds_toArray, List.set_cons_zero, List.set_cons_succ]
        refine takeH 2 40 (.int .i64 (k : Int)) hHeld rfl rfl (by kernel_rfl) (by kernel_rfl) (by kernel_rfl) (fun _ _ _ h => h) (Or.inl ⟨by rfl, fun w _ => by go_simp⟩) ?_
        simp only [Act.put, List.setIfInBounds_toArray, List.set_cons_zero, List.set_cons_succ]
        refine takeH 3 41 (.pointer (some ⟨g, 0, none⟩)) hHeld rfl rfl (by kernel_rfl) (by kernel_rfl) (by kernel_rfl) (fun _ _ _ h => h) (Or.inl ⟨by rfl, fun w _ => by go_simp⟩) ?_
        simp only [Act.put, List.setIfInBounds_toArray, List.set_cons_zero, List.set_cons_succ]
        refine wpAnyH_ready (rs := [4]) (by kernel_rfl) (by simp) (AllReadyH.cons rfl (fun K hK => ?_) AllReadyH.nil)
        rw [if_pos (by rfl)]
        go_simp
        have PD := hide (P.out.on ((Below.refl wr.heap.size wr).drew))
        have GD : Hid (Blk wr.drew gs 23 (spl (u8s (zer (n * 32))) (u8s ((xs.drop 18).take (32 * k))) 0)) := hide (GS.out.on ((Below.refl wr.heap.size wr).drew))
        by_cases h6 : 18 + 32 * k + 32 ≤ len
        rotate_left
        · refine (dig_no g a len cap (18 + 32 * k) _ PD.out.r hr (by omega)).mono ?_
          rintro e w13 ⟨rfl, hc13⟩
          refine ⟨rfl, PD.out.ch.trans hc13, .inl ⟨fun m h => ?_, rfl⟩⟩
          have h7 := h.c
          rw [hk0, hf0, hs0, hc] at h7
          obtain rfl := Option.some.inj h7
          have := h.len
          rw [HL.out] at this
          omega
        refine (dig_ok g a len cap xs (18 + 32 * k) _ PD.out.r PD.out.s h6).mono ?_
        rintro e w13 ⟨rfl, hg13, hc13⟩
        have P13 := hide (PD.out.rd hc13 hg13)
        have G13 := hide (GD.out.chg hc13 ng.symm)
        have HU := hide (show (u8s ((xs.drop (18 + 32 * k)).take 32)).length = 32 by rw [u8s_length, List.length_take, List.length_drop, HL.out]; omega)
        have HSP := hide (spl_dig xs n k hlt (by rw [HL.out]; omega))
        clear hg13 hc13 PD GD c33
        refine hK.out _ _ (pf_at P13.out.r3).2.2.2 (fun hHeld => ?_)
        clear hK K
        try simp only [Act.put, List.setIfInBounds_toArray, List.set_cons_zero, List.set_cons_succ]
        refine takeH 5 43 (.pointer (some ⟨gs, 0 + 32 * k, none⟩)) hHeld rfl rfl (by kernel_rfl) (by kernel_rfl) (by kernel_rfl) (fun _ _ _ h => h) (Or.inl ⟨by rfl, fun w _ => run_op rfl ((d_at gs 0 n n k (k : Int) rfl hlt) w)⟩) ?_
        simp only [Act.put, List.setIfInBounds_toArray, List.set_cons_zero, List.set_cons_succ]
        refine wpAnyH_ready (rs := [6]) (by kernel_rfl) (by simp) (AllReadyH.cons rfl (fun K hK => ?_) AllReadyH.nil)
        rw [if_pos (by rfl)]
        refine wp_storeW wD rfl rfl rfl G13.out HU.out (One.u8 _) (by rw [spl_length _ _ _ (by rw [u8s_length, u8s_length, zer_length, List.length_take, List.length_drop]; omega), u8s_length, zer_length]; omega) ?_
        intro w14 hg14 hb14
        rw [Nat.zero_add, HSP.out] at hg14
        have P14 : Hid (PV w w14 g g2 g3 a len cap xs ((18 + 32 * (k + 1) : Nat) : Int) (pfC k0 f0 s0 (.slice (some ⟨gs, 0, none⟩) n n))) := hide (by
          have q := P13.out
          rw [show 18 + 32 * k + 32 = 18 + 32 * (k + 1) by omega] at q
          exact ⟨q.r.but hb14 ng, q.s.but hb14 (fun h0 x hx e => by have := SA.out h0 x hx; omega), q.r2.but hb14 n2, q.r3.but hb14 n3, q.ch.fresh hb14 hgsl, q.gl, q.l2, q.l3, q.n23⟩)
        refine hK.out _ _ (pf_at P14.out.r3).2.2.2 (fun hHeld => ?_)
        clear hK K
        simp only [Act.put]
        refine wpAnyH_done (by kernel_rfl) ?_ _
        clear hHeld
        go_wp2
        exact ⟨⟨k + 1, by omega, by omega, by go_num, P14.out, hg14⟩, by simp [intOf]; omega⟩
      · obtain rfl : k = n := by omega
        have hxx : ¬ ((k : Int) < (k : Int)) := by omega
        obtain ⟨pp, hpp⟩ : ∃ pp, 18 + 32 * k = pp := ⟨_, rfl⟩
        have HPP := hide hpp
        rw [hpp] at P
        clear hpp hlt hkn
        obtain ⟨c0, c1⟩ := br_at P.out.r
        by_cases h8 : pp = len
        · subst h8
          go_wp2_with fail
          go_quiet (first | (go_at_call 66; exact Calls.quiet_of_same (need_ok _)))
          have PQ := hide (P.out.on (below_drewN (Below.refl wr.heap.size wr) nq))
          have GQ := hide (GS.out.drewN nq)
          clear P GS c0 c1
          generalize wr.drewN nq = wq at *
          go_wp2_with (first | (refine step_loadA wP rfl rfl PQ.out.r3 rfl ?_) | (refine step_storeA wP rfl rfl rfl PQ.out.r2 rfl (One.pf _ _ _ _ _ _) rfl ?_; intro w20 hg20 hb20))
          refine bodyPost_ret (results_wide rfl wP _ _ rfl hg20 rfl) rfl ⟨PQ.out.ch.fresh hb20 PQ.out.l2, .inr ⟨k, _, ?_, by rw [hk0, hf0, hs0], ?_⟩⟩
          · exact ⟨by rw [HL.out]; exact HPP.out.symm, by omega, by omega, by rw [hk0, hf0, hs0]; exact hc, ht0⟩
          · have hxl : (xs.drop 18).length = k * 32 := by rw [List.length_drop, HL.out]; have := HPP.out; omega
            have e := GQ.out.but hb20 n2.symm
            rw [List.take_of_length_le (by omega), spl_full (by rw [u8s_length, u8s_length, zer_length, hxl])] at e
            exact DOwn.of_blk e hgsl hxl (by omega)
        · have hne : ((pp : Int) == (len : Int)) = false := by simp; omega
          have hpl : pp ≤ len := by rw [← HPP.out]; exact hkl
          go_wp2_with fail
          refine wp_region_held_drew (S := fun v : World => v.cell? ⟨g, 0, none⟩ = some (.slice a len cap) ∧ v.cell? ⟨g, 1, none⟩ = some (.int .i64 (pp : Int))) (by kernel_rfl) ⟨c0, c1⟩ (fun hHeld => ?_)
          refine takeH 0 45 (.pointer (some ⟨g, 0, none⟩)) hHeld rfl rfl (by kernel_rfl) (by kernel_rfl) (by kernel_rfl) (fun _ _ _ h => h) (Or.inl ⟨by rfl, fun w _ => by go_simp⟩) ?_
          simp only [Act.put, List.setIfInBounds_toArray, List.set_cons_zero, List.set_cons_succ]
          refine takeH 1 46 (.pointer (some ⟨g, 0, none⟩)) hHeld rfl rfl (by kernel_rfl) (by kernel_rfl) (by kernel_rfl) (fun _ _ _ h => h) (Or.inl ⟨by rfl, fun w _ => by go_simp⟩) ?_
          simp only [Act.put, List.setIfInBounds_toArray, List.set_cons_zero, List.set_cons_succ]
          refine takeH 2 47 (.pointer (some ⟨g, 1, none⟩)) hHeld rfl rfl (by kernel_rfl) (by kernel_rfl) (by kernel_rfl) (fun _ _ _ h => h) (Or.inl ⟨by rfl, fun w _ => by go_simp⟩) ?_
          simp only [Act.put, List.setIfInBounds_toArray, List.set_cons_zero, List.set_cons_succ]
          refine takeH 3 48 (.int .i64 (pp : Int)) hHeld rfl rfl (by kernel_rfl) (by kernel_rfl) (by kernel_rfl) (fun _ _ _ h => h) (Or.inl ⟨by rfl, fun w hw => by have hw' : w.cell? ⟨g, 1, none⟩ = some (.int .i64 (pp : Int)) := And.right hw; go_simp⟩) ?_
          simp only [Act.put, List.setIfInBounds_toArray, List.set_cons_zero, List.set_cons_succ]
          refine takeH 4 49 (.pointer (some ⟨g, 0, none⟩)) hHeld rfl rfl (by kernel_rfl) (by kernel_rfl) (by kernel_rfl) (fun _ _ _ h => h) (Or.inl ⟨by rfl, fun w _ => by go_simp⟩) ?_
          simp only [Act.put, List.setIfInBounds_toArray, List.set_cons_zero, List.set_cons_succ]
          refine takeH 5 50 (.pointer (some ⟨g, 0, none⟩)) hHeld rfl rfl (by kernel_rfl) (by kernel_rfl) (by kernel_rfl) (fun _ _ _ h => h) (Or.inl ⟨by rfl, fun w _ => by go_simp⟩) ?_
          simp only [Act.put, List.setIfInBounds_toArray, List.set_cons_zero, List.set_cons_succ]
          refine takeH 6 51 (.pointer (some ⟨g, 0, none⟩)) hHeld rfl rfl (by kernel_rfl) (by kernel_rfl) (by kernel_rfl) (fun _ _ _ h => h) (Or.inl ⟨by rfl, fun w _ => by go_simp⟩) ?_
          simp only [Act.put, List.setIfInBounds_toArray, List.set_cons_zero, List.set_cons_succ]
          refine takeH 7 52 (.slice a len cap) hHeld rfl rfl (by kernel_rfl) (by kernel_rfl) (by kernel_rfl) (fun _ _ _ h => h) (Or.inl ⟨by rfl, fun w hw => by have hw' : w.cell? ⟨g, 0, none⟩ = some (.slice a len cap) := And.left hw; go_simp⟩) ?_
          simp only [Act.put, List.setIfInBounds_toArray, List.set_cons_zero, List.set_cons_succ]
          refine takeH 8 53 (.int .i64 (len : Int)) hHeld rfl rfl (by kernel_rfl) (by kernel_rfl) (by kernel_rfl) (fun _ _ _ h => h) (Or.inl ⟨by rfl, fun w _ => by go_simp⟩) ?_
          simp only [Act.put, List.setIfInBounds_toArray, List.set_cons_zero, List.set_cons_succ]
          refine takeH 9 54 (.bool false) hHeld rfl rfl (by kernel_rfl) (by kernel_rfl) (by kernel_rfl) (fun _ _ _ h => h) (Or.inl ⟨by rfl, fun w _ => by go_simp⟩) ?_
          simp only [Act.put, List.setIfInBounds_toArray, List.set_cons_zero, List.set_cons_succ]
          refine wpAnyH_ready (rs := [10]) (by kernel_rfl) (by simp) (AllReadyH.cons rfl (fun K hK => ?_) AllReadyH.nil)
          rw [if_pos (by rfl)]
          go_simp
          refine (need_no _).mono ?_
          rintro e w15 ⟨rfl, rfl⟩
          refine ⟨rfl, P.out.ch.trans (chg_drew _ _), .inl ⟨fun m h => ?_, rfl⟩⟩
          have h7 := h.c
          rw [hk0, hf0, hs0, hc] at h7
          obtain rfl := Option.some.inj h7
          have := h.len
          rw [HL.out] at this
          have := HPP.out
          omega

end Go.Proofs.YtconeobaohmbnaaDoor

/-
  wire.Decode: what is given up is caught.
-/
namespace Go.Proofs.YtconeobaohmbnaaDoor
open Go.RowKit
set_option linter.unusedVariables false
set_option linter.unusedSimpArgs false

theorem zE : Zeroed 41 [.int .i64 0] := fun _ _ _ _ _ _ _ => by kernel_rfl
section
variable {dst : Option Tmp} {ty : TypeId} {pos : String} {aft : Array Edge} {gd : Option (Nat × Bool)} {ops : Array Oper} {rest : List Oper} {a : Act} {w : World} {Q : Exit → Act → World → Prop}
theorem step_buildP0 (hw : Region.wanted ⟨dst, .build 48 #[], ty, pos, aft, gd⟩ (yielded ops a.tmps) = true)
    (h : wpList Tryd.prog ops Q rest (a.put dst (.agg (pfC 0 0 0 (.slice none 0 0)).toArray)) w) : wpList Tryd.prog ops Q (⟨dst, .build 48 #[], ty, pos, aft, gd⟩ :: rest) a w :=
  step_run hw _ w (by kernel_rfl) h
theorem step_buildBr {x : Operand} {v : Value} {sa : Option Addr} {m c : Nat} (hw : Region.wanted ⟨dst, .build 77 #[(0, x)], ty, pos, aft, gd⟩ (yielded ops a.tmps) = true) (hx : a.eval x = .slice sa m c)
    (h : wpList Tryd.prog ops Q rest (a.put dst (.agg (brC (.slice sa m c) 0).toArray)) w) : wpList Tryd.prog ops Q (⟨dst, .build 77 #[(0, x)], ty, pos, aft, gd⟩ :: rest) a w :=
  step_run hw _ w (by simp only [execOp, List.map_toArray, List.map_cons, List.map_nil, hx]; kernel_rfl) h
end
/-- The deferred function where nothing was given up. -/
theorem caught_idle (p q : Addr) (w : World) :
    CallsD Tryd.prog 43 #[.pointer (some p), .pointer (some q)] .returning w fun e u' w' => e = .returned (.tuple #[]) ∧ u' = .returning ∧ w' = w := by
  refine callsD_of_wpS Tryd.func43 rfl fun c₀ cs hu => ?_
  apply wpS_seq
  apply wpS_region
  simp [wpOpsS, go_sem, recoverD, hu, Tryd.ntmps43, Exit.thenS]
  refine wpS_cond (t := false) (by simp [Act.eval, Array.replicate]) ?_
  simp only [Bool.false_eq_true, if_false]
  refine wpS_of_wp (wp_skip ?_)
  cases c₀
  simp_all [bodyPostS, results, Tryd.results43]
theorem wS1 : Tryd.prog.underlying 41 = some (.int .i64) := by kernel_rfl
set_option maxRecDepth 100000 in
theorem caught (gp ge : Nat) (u : TypeId) (pv : Value) (older : List PanicEntry) (cs0 : List Value) (y : Int) (w : World) (hp : Blk w gp 48 cs0) (hl : cs0.length = 4) (he : Blk w ge 41 [.int .i64 y]) (hne : gp ≠ ge) :
    CallsD Tryd.prog 43 #[.pointer (some ⟨gp, 0, none⟩), .pointer (some ⟨ge, 0, none⟩)] (.panicking ({ v := .iface u pv, recovered := false } :: older)) w fun e u' w' =>
      e = .returned (.tuple #[]) ∧ u' = .panicking ({ v := .iface u pv, recovered := true } :: older) ∧ Blk w' gp 48 (pfC 0 0 0 (.slice none 0 0)) ∧ Blk w' ge 41 [.int .i64 80] ∧ (∀ i, i ≠ gp → i ≠ ge → w'.heap[i]? = w.heap[i]?) ∧ w'.os = w.os ∧ w'.tape = w.tape ∧ w'.output = w.output ∧ w'.heap.size = w.heap.size := by
  refine callsD_of_wpS Tryd.func43 rfl fun c₀ cs hu => ?_
  apply wpS_seq
  apply wpS_region
  simp [wpOpsS, go_sem, recoverD, hu, Tryd.ntmps43, Exit.thenS]
  refine wpS_cond (t := true) (by simp [Act.eval, Array.replicate]) ?_
  simp only [if_true]
  refine wpS_of_wp ?_
  go_wp2_with (first | (refine step_buildP0 rfl ?_) | (refine step_storeA wP rfl rfl rfl hp rfl (One.pf _ _ _ _ _ _) hl ?_; intro w1 hg1 hb1; have c0 := (he.but hb1 hne.symm).cell 0; have z0 := (he.but hb1 hne.symm).free 0; simp at c0))
  simp [bodyPostS, results, Tryd.results43]
  exact ⟨hg1.but (But.setCell _ _ _ _) hne, (he.but hb1 hne.symm).set 0 (.int .i64 80), fun i h1 h2 => by rw [(But.setCell w1 ge 0 (.int .i64 80)).block i h2]; exact hb1.block i h1, hb1.os, hb1.tape, hb1.output, hb1.size⟩
theorem zBr : Zeroed 77 (brC (.slice none 0 0) 0) := fun _ _ _ _ _ _ _ => by kernel_rfl
theorem One.br (a : Option Addr) (l c : Nat) (p : Int) : One (brC (.slice a l c) p) := by
  intro v hv
  simp only [brC, List.mem_cons, List.not_mem_nil, or_false] at hv
  rcases hv with rfl | rfl <;> rfl

theorem DOwn.but {w w' : World} {B g : Nat} {v : Value} {n : Nat} {xs : List Int} (h : DOwn w B v n xs) (hb : But g w w') (hg : g < B) : DOwn w' B v n xs := by
  obtain ⟨h1, h2⟩ := h
  refine ⟨h1, ?_⟩
  rcases h2 with h2 | ⟨k, cap, cur, e, hB, hh, r⟩
  · exact .inl h2
  · exact .inr ⟨k, cap, cur, e, hB, by rw [hb.block k (by omega)]; exact hh, r⟩
theorem results_cc {fn : Func} {p q : Tmp} {T : TypeId} (h : fn.results = #[.cell p T, .cell q 41]) {n : Nat} (hT : Wide T n) (tmps : Array Value) (w : World)
    {g : Nat} {t : TypeId} {cs : List Value} (hp : tmps.getD p undef = .pointer (some ⟨g, 0, none⟩)) (hg : Blk w g t cs) (hl : cs.length = n) {k : Nat} {t' : TypeId} {y : Int} (hq : tmps.getD q undef = .pointer (some ⟨k, 0, none⟩)) (hk : Blk w k t' [.int .i64 y]) :
    (results fn tmps).run Tryd.prog w = .ok (.tuple #[.agg cs.toArray, .int .i64 y]) w := by
  have hp' : tmps[p]?.getD undef = .pointer (some ⟨g, 0, none⟩) := by simpa using hp
  have hq' : tmps[q]?.getD undef = .pointer (some ⟨k, 0, none⟩) := by simpa using hq
  have hc : w.cell? ⟨k, 0, none⟩ = some (.int .i64 y) := by rw [hk.cell]; rfl
  have hE : (loadVar 41 ⟨k, 0, none⟩).run Tryd.prog w = .ok (.int .i64 y) w := by simp [go_sem, hc]
  obtain ⟨d, hu, hd⟩ := hT.und
  simp [results, h, hp', hq', asAddr, run_loadVar_mid w g 0 T cs d (hg.range 0 cs (by simp)) hu hd (by rw [hT.size, hl]), hE]

set_option maxRecDepth 100000 in
set_option maxHeartbeats 1000000 in
theorem decode_any (a : Option Addr) (len cap : Nat) (xs : List Int) (w : World) (hs : Sl w a len cap xs) :
    Calls Tryd.prog 20 #[.slice a len cap] w fun e w' => Below w.heap.size w w' ∧ ((DkNo xs ∧ e = .returned (.tuple #[.agg (pfC 0 0 0 (.slice none 0 0)).toArray, .int .i64 80])) ∨
      ∃ n v, DkOK xs n ∧ e = .returned (.tuple #[.agg (pfC (xs.getD 0 0) (rdV xs 1 8) (rdV xs 9 8) v).toArray, .int .i64 0]) ∧ DOwn w' w.heap.size v n (xs.drop 18)) := by
  have hmf : ∀ (fn : Fn) (first cap : Array Value) (w : World), (Instr.makeFunc fn first cap).run Tryd.prog w = .ok (.func fn first cap) w := fun _ _ _ _ => rfl
  have S := hide hs
  clear hs
  go_enter_defers Tryd.func20, Tryd.ntmps20
  go_wp2_with (refine step_alloc zP rfl ?_)
  intro w1 gp hr1 hl1 hb1
  go_wp2_with (refine step_alloc zE rfl ?_)
  intro w2 ge hr2 hl2 hb2
  have RP := hide (hr1.on hb2)
  have RE := hide hr2
  have B2 := hide (on_below hb1 hb2)
  have npe : gp ≠ ge := by have := hr1.lt; omega
  have hle : w.heap.size ≤ ge := Nat.le_trans hb1.size hl2
  clear hr1 hr2 hb1 hb2
  go_wp2_with (first | (refine step_buildBr (v := undef) rfl rfl ?_) | (refine step_alloc zBr rfl ?_; intro w3 g hr3 hl3 hb3; have R3 := hide hr3; clear hr3) | (refine step_storeA wBr rfl rfl rfl R3.out rfl (One.br _ _ _ _) rfl ?_; intro w4 hg4 hbut4))
  have lgp := RP.out.lt
  have lge := RE.out.lt
  have RP4 := hide ((RP.out.on hb3).but hbut4 (by omega))
  have RE4 := hide ((RE.out.on hb3).but hbut4 (by omega))
  have S4 := hide (((S.out.below B2.out).below hb3).but hbut4 ((S.out.below B2.out).apart hl3))
  have B4 := hide (new_below B2.out hb3 hl3 hbut4)
  have G4 := hide hg4
  have hgw : w.heap.size ≤ g := Nat.le_trans B2.out.size hl3
  clear hg4 hbut4 hb3 R3 RP RE S B2
  refine (proof_any g a len cap xs w4 G4.out S4.out).mono ?_
  rintro e w5 ⟨hc5, ⟨hno, rfl⟩ | ⟨n, v, hok, rfl, hown⟩⟩
  · have RP5 := hide (RP4.out.chg hc5 (by omega))
    have RE5 := hide (RE4.out.chg hc5 (by omega))
    have B5 := hide (B4.out.trans (hc5.below hgw B4.out.size))
    clear hc5
    refine leaves_cons (f := 43) (args := #[.pointer (some ⟨gp, 0, none⟩), .pointer (some ⟨ge, 0, none⟩)]) (by simp) (by simp [go_sem]) ?_
    refine (caught gp ge _ _ [] _ _ _ RP5.out rfl RE5.out npe).mono ?_
    rintro e u' w6 ⟨rfl, rfl, h1, h2, h3, h4, h5, h6, h7⟩
    simp only [Leaves, settle, List.dropWhile_nil]
    refine ⟨_, results_cc rfl wP _ _ rfl h1 rfl rfl h2, ?_, .inl ⟨hno, rfl⟩⟩
    exact B5.out.trans ⟨h4, h5, h6, Nat.le_of_eq h7.symm, fun k hk => h3 k (by omega) (by omega)⟩
  · have RP5 := hide (RP4.out.chg hc5 (by omega))
    have RE5 := hide (RE4.out.chg hc5 (by omega))
    have B5 := hide (B4.out.trans (hc5.below hgw B4.out.size))
    have D5 := hide hown
    obtain ⟨va, vc, rfl⟩ : ∃ va vc, v = .slice va n vc := by
      rcases hown.2 with ⟨rfl, h0⟩ | ⟨k, cap, cur, rfl, _⟩
      · exact ⟨none, 0, by rw [h0]⟩
      · exact ⟨_, _, rfl⟩
    obtain ⟨k0, hk0⟩ : ∃ z, xs.getD 0 0 = z := ⟨_, rfl⟩
    obtain ⟨f0, hf0⟩ : ∃ z, rdV xs 1 8 = z := ⟨_, rfl⟩
    obtain ⟨s0, hs0⟩ : ∃ z, rdV xs 9 8 = z := ⟨_, rfl⟩
    rw [hk0, hf0, hs0]
    have HO := hide hok
    clear hc5 hown hok
    go_wp2_with (first | (refine step_storeA wP rfl rfl rfl RP5.out rfl (One.pf _ _ _ _ _ _) rfl ?_; intro w6 hg6 hb6; have c0 : w6.cell? ⟨ge, 0, none⟩ = some (.int .i64 0) := (by rw [(RE5.out.but hb6 npe.symm).cell]; rfl); have z0 := (RE5.out.but hb6 npe.symm).free 0))
    refine leaves_cons (f := 43) (args := #[.pointer (some ⟨gp, 0, none⟩), .pointer (some ⟨ge, 0, none⟩)]) (by simp) (by simp [go_sem]) ?_
    refine (caught_idle ⟨gp, 0, none⟩ ⟨ge, 0, none⟩ _).mono ?_
    rintro e u' w7 ⟨rfl, rfl, rfl⟩
    simp only [Leaves, settle]
    have lg := G4.out.lt
    refine ⟨_, results_cc rfl wP _ _ rfl (hg6.but (But.setCell _ _ _ _) npe) rfl rfl ((RE5.out.but hb6 npe.symm).set 0 (.int .i64 0)), ?_, .inr ⟨n, _, HO.out, by rw [hk0, hf0, hs0], ?_⟩⟩
    · exact (B5.out.trans (hb6.below hl1)).trans ((But.setCell w6 ge 0 (.int .i64 0)).below hle)
    · exact ((D5.out.but hb6 (by omega)).but (But.setCell w6 ge 0 (.int .i64 0)) (by omega)).base B4.out.size
end Go.Proofs.YtconeobaohmbnaaDoor

/-
  What both Decodes tell of any bytes, in one form.
-/
namespace Go.Proofs.YtconeobaohmbnaaDoor
open Go.RowKit
set_option linter.unusedVariables false
set_option linter.unusedSimpArgs false

/-- What is told of bytes: kind, first, size, n digests ys, error. -/
def DecB (xs : List Int) (k f s : Int) (n : Nat) (ys : List Int) (E : Int) : Prop :=
  (DkNo xs ∧ k = 0 ∧ f = 0 ∧ s = 0 ∧ n = 0 ∧ ys = [] ∧ E = 80) ∨ (DkOK xs n ∧ k = xs.getD 0 0 ∧ f = rdV xs 1 8 ∧ s = rdV xs 9 8 ∧ ys = xs.drop 18 ∧ E = 0)
theorem decB (xs : List Int) : ∃ k f s n ys E, DecB xs k f s n ys E := by
  by_cases h : ∃ n, DkOK xs n
  · obtain ⟨n, h⟩ := h
    exact ⟨_, _, _, n, _, _, .inr ⟨h, rfl, rfl, rfl, rfl, rfl⟩⟩
  · exact ⟨_, _, _, _, _, _, .inl ⟨fun n hn => h ⟨n, hn⟩, rfl, rfl, rfl, rfl, rfl, rfl⟩⟩
theorem DkOK.one {xs : List Int} {n m : Nat} (h : DkOK xs n) (h' : DkOK xs m) : n = m := by
  have := h.len; have := h'.len; omega
section
variable {xs : List Int} {k f s : Int} {n : Nat} {ys : List Int} {E : Int}
theorem DecB.few (h : DecB xs k f s n ys E) : n ≤ 49 := by
  rcases h with h | h
  · omega
  · exact pcnt_le h.1.c
theorem DecB.byte (h : DecB xs k f s n ys E) (hb : isB xs) : isB ys := by
  rcases h with ⟨_, _, _, _, _, rfl, _⟩ | ⟨_, _, _, _, rfl, _⟩
  · intro x hx; cases hx
  · exact hb.drop _
theorem DecB.len (h : DecB xs k f s n ys E) : ys.length = 32 * n := by
  rcases h with ⟨_, _, _, _, rfl, rfl, _⟩ | ⟨h, _, _, _, rfl, _⟩
  · rfl
  · rw [List.length_drop, h.len]; omega
theorem decodeB (h : DecB xs k f s n ys E) (a : Option Addr) (len cap : Nat) (w : World) (hs : Sl w a len cap xs) :
    Calls Tryd.prog 20 #[.slice a len cap] w fun e w' => Below w.heap.size w w' ∧ ∃ v, e = .returned (.tuple #[.agg (pfC k f s v).toArray, .int .i64 E]) ∧ DOwn w' w.heap.size v n ys := by
  refine (decode_any a len cap xs w hs).mono ?_
  rintro e w' ⟨hb, ⟨hno, rfl⟩ | ⟨m, v, hok, rfl, ho⟩⟩
  · rcases h with ⟨_, rfl, rfl, rfl, rfl, rfl, rfl⟩ | ⟨h, _⟩
    · exact ⟨hb, _, rfl, DOwn.nil _ _⟩
    · exact absurd h (hno n)
  · rcases h with ⟨h, _⟩ | ⟨h, rfl, rfl, rfl, rfl, rfl⟩
    · exact absurd hok (h m)
    · obtain rfl := hok.one h
      exact ⟨hb, v, rfl, ho⟩
end

end Go.Proofs.YtconeobaohmbnaaDoor

/-
  Check and CheckTwo, of the program and of the document.
-/
namespace Go.Proofs.YtconeobaohmbnaaDoor
open Go.RowKit
set_option linter.unusedVariables false
set_option linter.unusedSimpArgs false

/-- What a check tells: Decode's error, or that it is of the other kind, or what the verifier tells. -/
def ckR (E k K R : Int) : Int := if E = 0 then (if k = K then R else 2) else E
section
variable {xs : List Int} {k f s : Int} {n : Nat} {ys : List Int} {E : Int}
set_option maxRecDepth 100000 in
set_option maxHeartbeats 1000000 in
theorem check_any (hD : DecB xs k f s n ys E) (x y : List Int) (R : Int) (a : Option Addr) (len cap : Nat) (w : World) (hs : Sl w a len cap xs) (hx : x.length = 32) (hy : y.length = 32)
    (hV : ∀ (va : Option Addr) (vc : Nat) (V : World), Below w.heap.size w V → Ds V va n vc ys → Calls Tryd.prog 45 #[.agg (u8s x).toArray, .int .i64 f, .int .i64 s, .slice va n vc, .agg (u8s y).toArray] V fun r w' => r = .returned (.int .i64 R) ∧ Below V.heap.size V w') :
    Calls Tryd.prog 22 #[.slice a len cap, .agg (u8s x).toArray, .agg (u8s y).toArray] w fun r w' => r = .returned (.int .i64 (ckR E k 1 R)) ∧ Below w.heap.size w w' := by
  have hn49 := hD.few
  have HYB := hide (hD.byte hs.hbyte)
  have HS := hide hs
  have HD := hide hD
  have HXU := hide (show (u8s x).length = 32 by rw [u8s_length, hx])
  have HYU := hide (show (u8s y).length = 32 by rw [u8s_length, hy])
  have HV := hide hV
  clear hs hD hV hx hy
  by_cases hE : E = 0
  · subst hE
    by_cases hk : k = 1
    · subst hk
      rw [show ckR 0 1 1 R = R from rfl]
      go_enter Tryd.func22, Tryd.ntmps22
      go_wp2_with (refine step_box rfl rfl ?_)
      intro w1 g4 hr1 hl1 hb1
      have G4 := hide hr1
      clear hr1
      go_wp2_with (refine step_box rfl rfl ?_)
      intro w2 g5 hr2 hl2 hb2
      have G52 := hide hr2
      have G42 := hide (G4.out.on hb2)
      have B2 := hide (on_below hb1 hb2)
      clear hr2 hb1 hb2 G4
      go_wp2_with fail
      refine (decodeB HD.out _ _ _ _ (HS.out.below B2.out)).mono ?_
      rintro r w3 ⟨hb3, v, rfl, ho⟩
      obtain ⟨va, vc, rfl, hds, _⟩ := ho.ds HYB.out (by omega)
      have B3 := hide (on_below B2.out hb3)
      have G43 := hide (G42.out.on hb3)
      have G53 := hide (G52.out.on hb3)
      have D3 := hide hds
      clear hds ho hb3 G42 G52 B2
      go_wp2_with (refine step_alloc zP rfl ?_)
      intro w4 g7 hr4 hl4 hb4
      have R4 := hide hr4
      clear hr4
      go_wp2_with (refine step_storeA wP rfl rfl rfl R4.out rfl (One.pf _ _ _ _ _ _) rfl ?_)
      intro w5 hg5 hbut5
      have Y5 := hide (hb4.trans (hbut5.below hl4))
      have B5 := hide (on_below B3.out Y5.out)
      have G45 := hide (G43.out.on Y5.out)
      have G55 := hide (G53.out.on Y5.out)
      have D5 := hide (D3.out.below Y5.out)
      obtain ⟨c0, c1, c2', c3⟩ := pf_at hg5
      clear hb4 hbut5 hl4 R4 Y5 B3 G43 G53 D3 hg5
      go_wp2_with (first | (refine step_loadA wD rfl rfl G45.out HXU.out ?_) | (refine step_loadA wD rfl rfl G55.out HYU.out ?_) | fail)
      refine (HV.out va vc _ B5.out D5.out).mono ?_
      rintro r w6 ⟨rfl, hb6⟩
      go_wp2
      go_ret
      exact ⟨rfl, on_below B5.out hb6⟩
    · have hk' : (k != 1) = true := by simpa using hk
      rw [show ckR 0 k 1 R = 2 by unfold ckR; rw [if_pos rfl, if_neg hk]]
      go_enter Tryd.func22, Tryd.ntmps22
      go_wp2_with (refine step_box rfl rfl ?_)
      intro w1 g4 hr1 hl1 hb1
      have G4 := hide hr1
      clear hr1
      go_wp2_with (refine step_box rfl rfl ?_)
      intro w2 g5 hr2 hl2 hb2
      have G52 := hide hr2
      have G42 := hide (G4.out.on hb2)
      have B2 := hide (on_below hb1 hb2)
      clear hr2 hb1 hb2 G4
      go_wp2_with fail
      refine (decodeB HD.out _ _ _ _ (HS.out.below B2.out)).mono ?_
      rintro r w3 ⟨hb3, v, rfl, ho⟩
      obtain ⟨va, vc, rfl, hds, _⟩ := ho.ds HYB.out (by omega)
      have B3 := hide (on_below B2.out hb3)
      have G43 := hide (G42.out.on hb3)
      have G53 := hide (G52.out.on hb3)
      have D3 := hide hds
      clear hds ho hb3 G42 G52 B2
      go_wp2_with (refine step_alloc zP rfl ?_)
      intro w4 g7 hr4 hl4 hb4
      have R4 := hide hr4
      clear hr4
      go_wp2_with (refine step_storeA wP rfl rfl rfl R4.out rfl (One.pf _ _ _ _ _ _) rfl ?_)
      intro w5 hg5 hbut5
      have Y5 := hide (hb4.trans (hbut5.below hl4))
      have B5 := hide (on_below B3.out Y5.out)
      have G45 := hide (G43.out.on Y5.out)
      have G55 := hide (G53.out.on Y5.out)
      have D5 := hide (D3.out.below Y5.out)
      obtain ⟨c0, c1, c2', c3⟩ := pf_at hg5
      clear hb4 hbut5 hl4 R4 Y5 B3 G43 G53 D3 hg5
      go_wp2
      go_ret
      exact ⟨rfl, B5.out⟩
  · have hE' : (E != 0) = true := by simpa using hE
    rw [show ckR E k 1 R = E by unfold ckR; rw [if_neg hE]]
    go_enter Tryd.func22, Tryd.ntmps22
    go_wp2_with (refine step_box rfl rfl ?_)
    intro w1 g4 hr1 hl1 hb1
    have G4 := hide hr1
    clear hr1
    go_wp2_with (refine step_box rfl rfl ?_)
    intro w2 g5 hr2 hl2 hb2
    have G52 := hide hr2
    have G42 := hide (G4.out.on hb2)
    have B2 := hide (on_below hb1 hb2)
    clear hr2 hb1 hb2 G4
    go_wp2_with fail
    refine (decodeB HD.out _ _ _ _ (HS.out.below B2.out)).mono ?_
    rintro r w3 ⟨hb3, v, rfl, ho⟩
    obtain ⟨va, vc, rfl, hds, _⟩ := ho.ds HYB.out (by omega)
    have B3 := hide (on_below B2.out hb3)
    have G43 := hide (G42.out.on hb3)
    have G53 := hide (G52.out.on hb3)
    have D3 := hide hds
    clear hds ho hb3 G42 G52 B2
    go_wp2_with (refine step_alloc zP rfl ?_)
    intro w4 g7 hr4 hl4 hb4
    have R4 := hide hr4
    clear hr4
    go_wp2_with (refine step_storeA wP rfl rfl rfl R4.out rfl (One.pf _ _ _ _ _ _) rfl ?_)
    intro w5 hg5 hbut5
    have Y5 := hide (hb4.trans (hbut5.below hl4))
    have B5 := hide (on_below B3.out Y5.out)
    have G45 := hide (G43.out.on Y5.out)
    have G55 := hide (G53.out.on Y5.out)
    have D5 := hide (D3.out.below Y5.out)
    obtain ⟨c0, c1, c2', c3⟩ := pf_at hg5
    clear hb4 hbut5 hl4 R4 Y5 B3 G43 G53 D3 hg5
    go_wp2
    go_ret
    exact ⟨rfl, B5.out⟩
set_option maxRecDepth 100000 in
set_option maxHeartbeats 1000000 in
theorem check2_any (hD : DecB xs k f s n ys E) (x y : List Int) (R : Int) (a : Option Addr) (len cap : Nat) (w : World) (hs : Sl w a len cap xs) (hx : x.length = 32) (hy : y.length = 32)
    (hV : ∀ (va : Option Addr) (vc : Nat) (V : World), Below w.heap.size w V → Ds V va n vc ys → Calls Tryd.prog 24 #[.int .i64 f, .int .i64 s, .agg (u8s x).toArray, .agg (u8s y).toArray, .slice va n vc] V fun r w' => r = .returned (.int .i64 R) ∧ Below V.heap.size V w') :
    Calls Tryd.prog 21 #[.slice a len cap, .agg (u8s x).toArray, .agg (u8s y).toArray] w fun r w' => r = .returned (.int .i64 (ckR E k 2 R)) ∧ Below w.heap.size w w' := by
  have hn49 := hD.few
  have HYB := hide (hD.byte hs.hbyte)
  have HS := hide hs
  have HD := hide hD
  have HXU := hide (show (u8s x).length = 32 by rw [u8s_length, hx])
  have HYU := hide (show (u8s y).length = 32 by rw [u8s_length, hy])
  have HV := hide hV
  clear hs hD hV hx hy
  by_cases hE : E = 0
  · subst hE
    by_cases hk : k = 2
    · subst hk
      rw [show ckR 0 2 2 R = R from rfl]
      go_enter Tryd.func21, Tryd.ntmps21
      go_wp2_with (refine step_box rfl rfl ?_)
      intro w1 g4 hr1 hl1 hb1
      have G4 := hide hr1
      clear hr1
      go_wp2_with (refine step_box rfl rfl ?_)
      intro w2 g5 hr2 hl2 hb2
      have G52 := hide hr2
      have G42 := hide (G4.out.on hb2)
      have B2 := hide (on_below hb1 hb2)
      clear hr2 hb1 hb2 G4
      go_wp2_with fail
      refine (decodeB HD.out _ _ _ _ (HS.out.below B2.out)).mono ?_
      rintro r w3 ⟨hb3, v, rfl, ho⟩
      obtain ⟨va, vc, rfl, hds, _⟩ := ho.ds HYB.out (by omega)
      have B3 := hide (on_below B2.out hb3)
      have G43 := hide (G42.out.on hb3)
      have G53 := hide (G52.out.on hb3)
      have D3 := hide hds
      clear hds ho hb3 G42 G52 B2
      go_wp2_with (refine step_alloc zP rfl ?_)
      intro w4 g7 hr4 hl4 hb4
      have R4 := hide hr4
      clear hr4
      go_wp2_with (refine step_storeA wP rfl rfl rfl R4.out rfl (One.pf _ _ _ _ _ _) rfl ?_)
      intro w5 hg5 hbut5
      have Y5 := hide (hb4.trans (hbut5.below hl4))
      have B5 := hide (on_below B3.out Y5.out)
      have G45 := hide (G43.out.on Y5.out)
      have G55 := hide (G53.out.on Y5.out)
      have D5 := hide (D3.out.below Y5.out)
      obtain ⟨c0, c1, c2', c3⟩ := pf_at hg5
      clear hb4 hbut5 hl4 R4 Y5 B3 G43 G53 D3 hg5
      go_wp2_with (first | (refine step_loadA wD rfl rfl G45.out HXU.out ?_) | (refine step_loadA wD rfl rfl G55.out HYU.out ?_) | fail)
      refine (HV.out va vc _ B5.out D5.out).mono ?_
      rintro r w6 ⟨rfl, hb6⟩
      go_wp2
      go_ret
      exact ⟨rfl, on_below B5.out hb6⟩
    · have hk' : (k != 2) = true := by simpa using hk
      rw [show ckR 0 k 2 R = 2 by unfold ckR; rw [if_pos rfl, if_neg hk]]
      go_enter Tryd.func21, Tryd.ntmps21
      go_wp2_with (refine step_box rfl rfl ?_)
      intro w1 g4 hr1 hl1 hb1
      have G4 := hide hr1
      clear hr1
      go_wp2_with (refine step_box rfl rfl ?_)
      intro w2 g5 hr2 hl2 hb2
      have G52 := hide hr2
      have G42 := hide (G4.out.on hb2)
      have B2 := hide (on_below hb1 hb2)
      clear hr2 hb1 hb2 G4
      go_wp2_with fail
      refine (decodeB HD.out _ _ _ _ (HS.out.below B2.out)).mono ?_
      rintro r w3 ⟨hb3, v, rfl, ho⟩
      obtain ⟨va, vc, rfl, hds, _⟩ := ho.ds HYB.out (by omega)
      have B3 := hide (on_below B2.out hb3)
      have G43 := hide (G42.out.on hb3)
      have G53 := hide (G52.out.on hb3)
      have D3 := hide hds
      clear hds ho hb3 G42 G52 B2
      go_wp2_with (refine step_alloc zP rfl ?_)
      intro w4 g7 hr4 hl4 hb4
      have R4 := hide hr4
      clear hr4
      go_wp2_with (refine step_storeA wP rfl rfl rfl R4.out rfl (One.pf _ _ _ _ _ _) rfl ?_)
      intro w5 hg5 hbut5
      have Y5 := hide (hb4.trans (hbut5.below hl4))
      have B5 := hide (on_below B3.out Y5.out)
      have G45 := hide (G43.out.on Y5.out)
      have G55 := hide (G53.out.on Y5.out)
      have D5 := hide (D3.out.below Y5.out)
      obtain ⟨c0, c1, c2', c3⟩ := pf_at hg5
      clear hb4 hbut5 hl4 R4 Y5 B3 G43 G53 D3 hg5
      go_wp2
      go_ret
      exact ⟨rfl, B5.out⟩
  · have hE' : (E != 0) = true := by simpa using hE
    rw [show ckR E k 2 R = E by unfold ckR; rw [if_neg hE]]
    go_enter Tryd.func21, Tryd.ntmps21
    go_wp2_with (refine step_box rfl rfl ?_)
    intro w1 g4 hr1 hl1 hb1
    have G4 := hide hr1
    clear hr1
    go_wp2_with (refine step_box rfl rfl ?_)
    intro w2 g5 hr2 hl2 hb2
    have G52 := hide hr2
    have G42 := hide (G4.out.on hb2)
    have B2 := hide (on_below hb1 hb2)
    clear hr2 hb1 hb2 G4
    go_wp2_with fail
    refine (decodeB HD.out _ _ _ _ (HS.out.below B2.out)).mono ?_
    rintro r w3 ⟨hb3, v, rfl, ho⟩
    obtain ⟨va, vc, rfl, hds, _⟩ := ho.ds HYB.out (by omega)
    have B3 := hide (on_below B2.out hb3)
    have G43 := hide (G42.out.on hb3)
    have G53 := hide (G52.out.on hb3)
    have D3 := hide hds
    clear hds ho hb3 G42 G52 B2
    go_wp2_with (refine step_alloc zP rfl ?_)
    intro w4 g7 hr4 hl4 hb4
    have R4 := hide hr4
    clear hr4
    go_wp2_with (refine step_storeA wP rfl rfl rfl R4.out rfl (One.pf _ _ _ _ _ _) rfl ?_)
    intro w5 hg5 hbut5
    have Y5 := hide (hb4.trans (hbut5.below hl4))
    have B5 := hide (on_below B3.out Y5.out)
    have G45 := hide (G43.out.on Y5.out)
    have G55 := hide (G53.out.on Y5.out)
    have D5 := hide (D3.out.below Y5.out)
    obtain ⟨c0, c1, c2', c3⟩ := pf_at hg5
    clear hb4 hbut5 hl4 R4 Y5 B3 G43 G53 D3 hg5
    go_wp2
    go_ret
    exact ⟨rfl, B5.out⟩
end

end Go.Proofs.YtconeobaohmbnaaDoor

/-
  wire.Encode.
-/
namespace Go.Proofs.YtconeobaohmbnaaDoor
open Go.RowKit
set_option linter.unusedVariables false
set_option linter.unusedSimpArgs false

/-- A proof's bytes ahead of its digests, and all of them. -/
def encH (k f s : Int) (n : Nat) : List Int := (([k] ++ be f 8) ++ be s 8) ++ [(n : Int)]
def encB (k f s : Int) (n : Nat) (ys : List Int) : List Int := encH k f s n ++ ys
theorem encH_length (k f s : Int) (n : Nat) : (encH k f s n).length = 18 := by simp [encH, be_length]
theorem pcnt_bd {k i n : Int} {m : Nat} (h : pcnt k i n = some m) : (k = 1 ∨ k = 2) ∧ 0 ≤ i ∧ i ≤ n ∧ n ≤ 281474976710656 := by
  unfold pcnt at h
  split at h
  · split at h
    · rename_i h1 h2; exact ⟨.inl h1, by omega, by omega, by omega⟩
    · cases h
  · split at h
    · split at h
      · rename_i h1 h2; exact ⟨.inr (by assumption), by omega, by omega, by omega⟩
      · cases h
    · cases h
theorem isB_app {xs ys : List Int} (h : isB xs) (h' : isB ys) : isB (xs ++ ys) := h.append h'
theorem isB_oneW {x : Int} (h0 : 0 ≤ x) (h1 : x ≤ 255) : isB [x] := by intro y hy; simp at hy; omega
theorem wrap_u8 (x : Int) (h0 : 0 ≤ x) (h1 : x ≤ 255) : IntKind.u8.wrap x = x := by rw [IntKind.wrap_u8]; omega
theorem wrap_u64 (x : Int) (h0 : 0 ≤ x) (h1 : x < 18446744073709551616) : IntKind.u64.wrap x = x := by rw [IntKind.wrap_u64]; omega
set_option maxRecDepth 100000 in
theorem encode_bad (k f s : Int) (a : Option Addr) (m cap : Nat) (w : World) (hm : m ≤ 9223372036854775807) (hv : pval k f s m = false) :
    Calls Tryd.prog 42 #[.agg (pfC k f s (.slice a m cap)).toArray] w fun r w' => r = .returned (.tuple #[.slice none 0 0, .int .i64 2]) ∧ Below w.heap.size w w' := by
  have HV := hide (fun V => valid_any k f s a m cap V hm)
  rw [hv] at HV
  go_enter Tryd.func42, Tryd.ntmps42
  go_wp2_with (refine step_box (cs := pfC k f s (.slice a m cap)) rfl rfl ?_)
  intro w1 g1 hr1 hl1 hb1
  have R1 := hide hr1
  clear hr1
  go_wp2_with (first | (refine step_loadA wP rfl rfl R1.out rfl ?_) | fail)
  refine (HV.out _).mono ?_
  rintro r w2 ⟨rfl, hb2⟩
  go_wp2
  go_ret2
  exact ⟨rfl, on_below hb1 hb2⟩
set_option maxRecDepth 100000 in
set_option maxHeartbeats 1000000 in
theorem encode_ok (k f s : Int) (a : Option Addr) (n cap : Nat) (ys : List Int) (w : World) (hs : Ds w a n cap ys) (hc : pcnt k f s = some n) :
    Calls Tryd.prog 42 #[.agg (pfC k f s (.slice a n cap)).toArray] w fun r w' => Below w.heap.size w w' ∧ ∃ v, r = .returned (.tuple #[v, .int .i64 0]) ∧ v ≠ .slice none 0 0 ∧ Own w' w.heap.size v (encB k f s n ys) := by
  have hn49 := pcnt_le hc
  obtain ⟨hk, hf0, hfs, hs48⟩ := pcnt_bd hc
  have HV := hide (fun V => valid_any k f s a n cap V (by omega))
  rw [show pval k f s n = true by unfold pval; simp [hc]] at HV
  have HS := hide hs
  have HYB := hide hs.hbyte
  have HYL := hide hs.hlen
  have wk : IntKind.u8.wrap k = k := wrap_u8 k (by omega) (by omega)
  have wf : IntKind.u64.wrap f = f := wrap_u64 f (by omega) (by omega)
  have ws : IntKind.u64.wrap s = s := wrap_u64 s (by omega) (by omega)
  have wn : IntKind.u8.wrap (n : Int) = (n : Int) := wrap_u8 _ (by omega) (by omega)
  have HB1 : Hid (isB [k]) := hide (isB_oneW (by omega) (by omega))
  have HB2 : Hid (isB ([k] ++ be f 8)) := hide (HB1.out.append (be_isB f 8))
  have HB3 : Hid (isB (([k] ++ be f 8) ++ be s 8)) := hide (HB2.out.append (be_isB s 8))
  have HB4 : Hid (isB (encH k f s n)) := hide (HB3.out.append (isB_oneW (by omega) (by omega)))
  clear hs hc hk
  go_enter Tryd.func42, Tryd.ntmps42
  go_wp2_with (refine step_box (cs := pfC k f s (.slice a n cap)) rfl rfl ?_)
  intro w1 g1 hr1 hl1 hb1
  have R1 := hide hr1
  have B1 := hide hb1
  clear hr1 hb1
  go_wp2_with (first | (refine step_loadA wP rfl rfl R1.out rfl ?_) | fail)
  refine (HV.out _).mono ?_
  rintro r w2 ⟨rfl, hb2⟩
  have B2 := hide (on_below B1.out hb2)
  have R2 := hide (R1.out.on hb2)
  obtain ⟨c0, c1, c2', c3⟩ := pf_at R2.out
  clear hb2 R1 B1
  have S3 := hide (one_slB w2 k (HB1.out k (by simp)))
  have Y3 := hide ((Below.refl w2.heap.size w2).alloc (Nat.le_refl _) (.cells #[.int .u8 k] 5))
  have d1 := cell_kept c1 Y3.out
  go_wp2_with fail
  refine (putUint64_any _ 1 1 [k] f _ S3.out (by omega) (by omega)).mono ?_
  rintro r w4 ⟨g4, rfl, hl4, hr4, hb4⟩
  have Y4 := hide (on_below Y3.out hb4)
  have S4 := hide (hr4.sl0 HB2.out (by simp [be_length]))
  rw [show ([k] ++ be f 8).length = 9 by simp [be_length]] at S4
  have B4 := hide (on_below B2.out Y4.out)
  have R4 := hide (R2.out.on Y4.out)
  clear hl4 hr4 hb4 S3 Y3 Y4 R2 B2 c0 c1 c2' c3 d1
  obtain ⟨c0, c1, c2', c3⟩ := pf_at R4.out
  go_wp2_with fail
  refine (putUint64_any _ 9 9 _ s _ S4.out (by omega) (by omega)).mono ?_
  rintro r w5 ⟨g5, rfl, hl5, hr5, hb5⟩
  have O5 := hide (Own.of_blk hr5 (Nat.le_trans B4.out.size hl5) (by simp [be_length]))
  rw [show (([k] ++ be f 8) ++ be s 8).length = 17 by simp [be_length]] at O5
  have B5 := hide (on_below B4.out hb5)
  have R5 := hide (R4.out.on hb5)
  clear hl5 hr5 hb5 S4 R4 B4 c0 c1 c2' c3
  obtain ⟨c0, c1, c2', c3⟩ := pf_at R5.out
  go_wp2_with (refine step_append rfl rfl rfl (O5.out.alloc _) (one_slB _ (n : Int) (by omega)) (by simp [be_length]) (by have := B5.out.size; simp; omega) ?_)
  intro v6 w6 ho6 hg6 hn6
  have Y5 := hide ((Below.refl w5.heap.size w5).alloc (Nat.le_refl _) (.cells #[.int .u8 (n : Int)] 5))
  have B6 := hide ((B5.out.alloc B5.out.size (.cells #[.int .u8 (n : Int)] 5)).trans (Below.of_grown hg6 (by have := B5.out.size; simp; omega) O5.out.lt))
  have N6 : Hid (v6 ≠ .slice none 0 0) := hide (fun e => by have e2 := (hn6 e).1; cases e2)
  have R6 := hide ((R5.out.on Y5.out).grown (by decide) (O5.out.alloc _) hg6)
  have O6 : Hid (Own w6 w.heap.size v6 (encH k f s n ++ ys.take (32 * 0))) := hide (by rw [Nat.mul_zero, List.take_zero, List.append_nil]; exact ho6)
  clear ho6 hg6 hn6 O5 R5 Y5 c0 c1 c2' c3
  have c3 := (pf_at R6.out).2.2.2
  go_wp2_with fail
  go_loopw [4, 34] (fun v i W => ∃ q : Nat, q ≤ n ∧ i = .int .i64 (q : Int) ∧ v ≠ .slice none 0 0 ∧ Own W w.heap.size v (encH k f s n ++ ys.take (32 * q)) ∧ Below w.heap.size w W) (fun _ i _ => n - (intOf i).toNat)
  case atStart => exact ⟨0, by omega, rfl, N6.out, O6.out, B6.out⟩
  case round =>
    obtain ⟨q, hqn, rfl, hvn, ho, hbq⟩ := hrel
    have BQ := hide hbq
    have OQ := hide ho
    have NQ := hide hvn
    clear hbq ho hvn O6 N6 B6 R6 c3
    by_cases hlt : q < n
    · have hlt' : (q : Int) < (n : Int) := by omega
      obtain ⟨b, o, rfl⟩ := HS.out.place (by omega)
      have hdl := dat_length HYL.out hlt
      have HDL := hide hdl
      have HDU := hide (show (u8s (dat ys q)).length = 32 by rw [u8s_length, hdl])
      have HDB := hide (dat_isB HYB.out q)
      have HRG := hide ((HS.out.below BQ.out).range q hlt)
      have hat := d_at b o n cap q (q : Int) rfl hlt
      have hql : (encH k f s n ++ ys.take (32 * q)).length = 18 + 32 * q := by rw [List.length_append, encH_length, List.length_take, HYL.out]; omega
      obtain ⟨gq, cq, rfl, _, hsq⟩ := OQ.out.sl (HB4.out.append (HYB.out.take _)) (by omega) NQ.out
      rw [hql] at hsq ⊢
      have SQ := hide hsq
      clear hdl hsq
      go_wp2_with (first | (refine step_loadR wD rfl rfl _ HRG.out HDU.out ?_) | (refine step_alloc zD rfl ?_))
      intro w7 g6 hr7 hl7 hb7
      have G7 := hide hr7
      clear hr7
      go_wp2_with (refine step_storeA wD rfl rfl rfl G7.out HDU.out (One.u8 _) (by rw [u8s_length, zer_length]) ?_)
      intro w8 hg8 hbut8
      have G8 := hide hg8
      have Y8 := hide (hb7.trans (hbut8.below hl7))
      have S8 := hide (SQ.out.below Y8.out)
      have B8 := hide (on_below BQ.out Y8.out)
      clear hg8 hbut8 hb7 hl7 G7 SQ Y8 HRG hat
      go_wp2_with (first | (refine step_loadA wD rfl rfl G8.out HDU.out ?_) | fail)
      refine (putDigest_any _ _ _ _ (dat ys q) _ S8.out HDL.out HDB.out).mono ?_
      rintro r w9 ⟨g9, rfl, hl9, hr9, hb9⟩
      have e9 : (encH k f s n ++ ys.take (32 * q)) ++ dat ys q = encH k f s n ++ ys.take (32 * (q + 1)) := by rw [List.append_assoc, take_more]; rfl
      rw [e9] at hr9
      have hl2 : (encH k f s n ++ ys.take (32 * (q + 1))).length = 18 + 32 * q + 32 := by rw [List.length_append, encH_length, List.length_take, HYL.out]; omega
      have O9 := Own.of_blk hr9 (Nat.le_trans B8.out.size hl9) (by omega)
      rw [hl2] at O9
      have HO9 := hide O9
      have B9 := hide (on_below B8.out hb9)
      clear O9 hr9 hl9 hb9 e9 hl2
      go_wp2
      go_roundw
      case rel => exact ⟨q + 1, by omega, by simp, by simp, HO9.out, B9.out⟩
      case measure => simp only [intOf]; omega
    · obtain rfl : q = n := by omega
      have hlt' : ¬ ((q : Int) < (q : Int)) := by omega
      go_wp2
      go_ret2
      refine ⟨BQ.out, _, rfl, NQ.out, ?_⟩
      have e := OQ.out
      rw [List.take_of_length_le (by rw [HYL.out]; exact Nat.le_refl _)] at e
      exact e

end Go.Proofs.YtconeobaohmbnaaDoor
