/-
  The document's Append: the walk.
-/
import Derived.Test.YtnkjdoghfdnlaaaKqq
namespace Go.Proofs.Ytnkjdoghfdnlaaa
open Go.RowKit
set_option linter.unusedVariables false

set_option maxRecDepth 100000 in
set_option maxHeartbeats 2000000 in
theorem appendR_any (r s : Nat) (rs : List Rw) (R : Rm) (w : World) (h : RkAt w r s rs R) (n : ByteArray) (a : Option Addr) (l c : Nat) (b : List Int) (hb : Sl w a l c b) (hoff : b ≠ [] → ∀ x, a = some x → ¬ R.own r x.block ∧ x.block < w.heap.size) (hwt : wt rs + 2 * b.length + 2 ≤ 16777216) :
    Calls Try.prog 13 #[.pointer (some ⟨r, 0, none⟩), .string n, .slice a l c] w fun e w' => e = .returned (.int .i64 (fE rs n)) ∧ RoP w w' r s R (apS s rs n b) := by
  have hl := hb.hlen
  subst hl
  have HW := hide hwt
  have hwr := wrong_t r s rs R w h n (by omega)
  have HWR := hide hwr
  have HH := hide h
  have HB := hide hb
  have HOFF := hide hoff
  clear h hwr hwt hb hoff
  by_cases h0 : fE rs n = 0
  · obtain ⟨hn, xs, hf, hfl⟩ := fE_0 h0
    rw [h0]
    rw [h0] at HWR
    by_cases hb0 : b = []
    · subst hb0
      have e2 : apS s rs n [] = rs := by simp [apS]
      rw [e2]
      clear e2 h0 hn hf hfl
      go_enter Try.func13, Try.ntmps13
      go_wp2_with (go_at_call 39; refine HWR.out.mono ?_; rintro e w2 ⟨rfl, hb2⟩)
      go_loopw [2] (fun v wr => v = .slice a 0 c ∧ w2 = wr) (fun _ _ => 0)
      case atStart => exact ⟨rfl, rfl⟩
      case round =>
        obtain ⟨rfl, rfl⟩ := hrel
        go_wp2
        go_ret
        exact ⟨rfl, RoP.below HH.out hb2⟩
    · have e2 : apS s rs n b = rs ++ expd s ⟨rAp n b, rs.length, xs.length⟩ := by
        simp only [apS, h0, hfl]
        rw [if_pos ⟨trivial, hb0⟩]
      rw [e2]
      have hs1 := HH.out.s1
      have hs2 := HH.out.s2
      have hbl : 0 < b.length := List.length_pos_iff.2 hb0
      have HAP : Hid (∀ k, k ≤ cntN s xs.length b.length → (expK s ⟨rAp n b, rs.length, xs.length⟩ k).foldl doR (play rs) = upd (play rs) n (some (xs ++ b.take (edgeN s xs.length b.length k))) ∧ Val s (play rs) (expK s ⟨rAp n b, rs.length, xs.length⟩ k)) := hide (fun k hk => expd_ap hs1 hn hf hb0 HB.out.hbyte k hk)
      have hxw := play_wt rs n
      rw [hfl] at hxw
      have HXW : Hid (xs.length ≤ 16777216) := hide (by have := HW.out; omega)
      have HCNT : Hid (cntN s xs.length b.length ≤ b.length + 1) := hide (cnt_bd hs1)
      have HBL := hide hbl
      replace HOFF := hide (HOFF.out hb0)
      clear e2 h0 hf hfl hb0 hxw hbl
      go_enter Try.func13, Try.ntmps13
      go_wp2_with (go_at_call 39; refine HWR.out.mono ?_; rintro e w2 ⟨rfl, hb2⟩)
      have I0 : Hid (ApI w w2 r s rs R n b xs a 0 (.slice a b.length c)) := hide ⟨Nat.zero_le _, ⟨a, c, by rw [edge_zero]; rfl, by rw [edge_zero]; exact HB.out.below hb2, fun x hx => ⟨x, hx, rfl⟩⟩, by simp only [expK, List.range_zero, List.map_nil, List.append_nil]; exact RoP.below HH.out hb2⟩
      clear hb2 HWR
      go_loopw [2] (fun v wr => ∃ k : Nat, Hid (ApI w wr r s rs R n b xs a k v)) (fun v _ => slen v)
      case atStart => exact ⟨0, I0⟩
      case round =>
        obtain ⟨k, HI⟩ := hrel
        obtain ⟨ak, ck, hve, hsk, hak⟩ := HI.out.sl
        obtain ⟨R1, g1, g2, g3, g4⟩ := HI.out.rk
        subst hve
        by_cases hlt : k < cntN s xs.length b.length
        · have hed := edge_lt hs1 HBL.out hlt
          have hnx := edge_next hs1 HBL.out hlt
          have hst := edge_step hs1 HBL.out hlt
          have hle1 : edgeN s xs.length b.length (k + 1) ≤ b.length := Nat.min_le_right _ _
          obtain ⟨hfd, _⟩ := HAP.out k (by omega)
          obtain ⟨_, hval⟩ := HAP.out (k + 1) (by omega)
          rw [expK_succ, Val_app, hfd] at hval
          have hpl : play (rs ++ expK s ⟨rAp n b, rs.length, xs.length⟩ k) = upd (play rs) n (some (xs ++ b.take (edgeN s xs.length b.length k))) := by rw [play_app, hfd]
          have HRK := hide g1
          have G2 := hide g2
          have G3 := hide g3
          have G4 := hide g4
          have HLR : Hid (Lraw s (play (rs ++ expK s ⟨rAp n b, rs.length, xs.length⟩ k)) (pieces s ⟨rAp n b, rs.length, xs.length⟩ k (k + 1))) := hide (by rw [hpl]; exact hval.2.1)
          have HSK := hide hsk
          have HAK := hide hak
          have hw9 : wt (rs ++ expK s ⟨rAp n b, rs.length, xs.length⟩ k) + (edgeN s xs.length b.length (k + 1) - edgeN s xs.length b.length k) + 1 ≤ 16777216 := by
            have h1 := expK_wt s ⟨rAp n b, rs.length, xs.length⟩ k
            have h2 : (b.take (edgeN s xs.length b.length k)).length ≤ edgeN s xs.length b.length k := by rw [List.length_take]; omega
            have h3 : wt (expK s ⟨rAp n b, rs.length, xs.length⟩ k) ≤ edgeN s xs.length b.length k + k := Nat.le_trans h1 (by show (b.take (edgeN s xs.length b.length k)).length + k ≤ _; omega)
            rw [wt_app]
            have h4 := HW.out
            have h5 := HCNT.out
            omega
          have HW9 := hide hw9
          have HALL : Hid (∀ W : World, RkAt W r s (rs ++ expK s ⟨rAp n b, rs.length, xs.length⟩ k) R1 → Calls Try.prog 42 #[.pointer (some ⟨r, 0, none⟩), .string n] W fun e w' => e = .returned (.tuple #[.string (str (xs ++ b.take (edgeN s xs.length b.length k))), .bool true]) ∧ Below W.heap.size W w') := hide (fun W hW => by
            have := all_any r s _ R1 W hW n (by have := HW9.out; omega)
            rw [hpl] at this
            have e1 : fl (upd (play rs) n (some (xs ++ b.take (edgeN s xs.length b.length k)))) n = xs ++ b.take (edgeN s xs.length b.length k) := by simp [fl, upd_same]
            rw [e1, upd_same] at this
            exact this)
          have hsz : (str (xs ++ b.take (edgeN s xs.length b.length k))).size = xs.length + edgeN s xs.length b.length k := by
            rw [str_size, List.length_append, List.length_take, Nat.min_eq_left (by omega)]
          have hpc : (pieces s ⟨rAp n b, rs.length, xs.length⟩ k (k + 1)) = rAp n ((b.drop (edgeN s xs.length b.length k)).take (edgeN s xs.length b.length (k + 1) - edgeN s xs.length b.length k)) := rfl
          rw [hpc] at HLR
          have HET : Hid (rs ++ expK s ⟨rAp n b, rs.length, xs.length⟩ (k + 1) = (rs ++ expK s ⟨rAp n b, rs.length, xs.length⟩ k) ++ [rAp n ((b.drop (edgeN s xs.length b.length k)).take (edgeN s xs.length b.length (k + 1) - edgeN s xs.length b.length k))]) := hide (by rw [expK_succ, hpc, List.append_assoc])
          have hMb : xs.length + edgeN s xs.length b.length k ≤ 33554432 := by have h1 := HXW.out; have h2 := HW.out; omega
          have hPl : ((b.drop (edgeN s xs.length b.length k)).take (edgeN s xs.length b.length (k + 1) - edgeN s xs.length b.length k)).length = edgeN s xs.length b.length (k + 1) - edgeN s xs.length b.length k := by rw [List.length_take, List.length_drop]; omega
          have hdd : (b.drop (edgeN s xs.length b.length k)).drop (edgeN s xs.length b.length (k + 1) - edgeN s xs.length b.length k) = b.drop (edgeN s xs.length b.length (k + 1)) := by rw [List.drop_drop]; congr 1; omega
          have hbl2 : b.length ≤ 16777216 := by have h2 := HW.out; omega
          have hisB := HB.out.hbyte
          clear hpl hval hfd hw9 hpc g1 g2 g3 g4 hak HI
          generalize edgeN s xs.length b.length k = EK at *
          generalize hEK1 : edgeN s xs.length b.length (k + 1) = EK1 at *
          generalize rs ++ expK s ⟨rAp n b, rs.length, xs.length⟩ k = rsK at *
          generalize str (xs ++ b.take EK) = X at HALL hsz
          obtain ⟨M, hM⟩ : ∃ M, M = xs.length + EK := ⟨_, rfl⟩
          rw [← hM] at hnx hsz hMb
          obtain ⟨N, hN⟩ : ∃ N, N = EK1 - EK := ⟨_, rfl⟩
          rw [← hN] at hnx HW9 HLR HET hPl hdd
          have hLRb : b.length - EK ≤ 16777216 := by omega
          have hLR1 : b.length - EK1 = (b.length - EK) - N := by omega
          have hN0 : 0 < N := by omega
          have hNL : N ≤ b.length - EK := by omega
          obtain ⟨LR, hLR⟩ : ∃ LR, LR = b.length - EK := ⟨_, rfl⟩
          rw [← hLR] at hsk HSK hLRb hLR1 hNL hnx ⊢
          obtain ⟨hto, hts⟩ := hsk.to' hNL
          obtain ⟨a2, hfr, hab, hfs⟩ := hsk.from' hNL
          have hcm : M % s < s := Nat.mod_lt _ hs1
          obtain ⟨H, hH⟩ : ∃ H, H = M % s := ⟨_, rfl⟩
          rw [← hH] at hnx hcm
          obtain ⟨T, hT⟩ : ∃ T, T = s - H := ⟨_, rfl⟩
          rw [← hT] at hnx
          have hcase : ((LR : Int) < (T : Int) ∧ N = LR) ∨ (¬ (LR : Int) < (T : Int) ∧ N = T) := by omega
          have f1 : (M : Int).tmod (s : Int) = (H : Int) := by rw [hH, Int.tmod_eq_emod_of_nonneg (by omega)]; rfl
          have hf2 := wrap_sub (Nat.le_of_lt hcm) (by omega)
          rw [← hT] at hf2
          have HF2 := hide hf2
          clear hf2 hT
          have hs0 : ¬ ((s : Int) = 0) := by omega
          have hl0 : (0 : Int) < (LR : Int) := by omega
          have HHS := hide (And.intro hs1 hs2)
          have HDD := hide hdd
          have HPL := hide hPl
          have HLR1 := hide hLR1
          have HAB := hide hab
          have HTS := hide hts
          have HFS := hide hfs
          have HE1 := hide hEK1
          have HP0 : Hid ((b.drop EK).take N ≠ []) := hide (fun e => by rw [e] at hPl; simp at hPl; omega)
          have HPB : Hid (isB ((b.drop EK).take N)) := hide ((hisB.drop _).take _)
          have HNL : Hid (N ≤ 16777216 ∧ N ≤ LR ∧ 0 < N) := hide ⟨by omega, hNL, hN0⟩
          have HPS : Hid (((b.drop EK).take N).length ≤ 140737488355328) := hide (by rw [hPl]; omega)
          have HWX : Hid (wt rsK + (rAp n ((b.drop EK).take N)).b.length + 1 ≤ 16777216) := hide (by show wt rsK + ((b.drop EK).take N).length + 1 ≤ _; rw [hPl]; exact HW9.out)
          have HLT : Hid (k + 1 ≤ cntN s xs.length b.length) := hide hlt
          have HSM : Hid (([] : List Int).length + N ≤ 140737488355328) := hide (by show 0 + N ≤ _; omega)
          clear hed hnx hst hle1 hsk hPl hdd hbl2 hisB hM hMb hLR hN hLRb hLR1 hN0 hNL hab hts hfs hcm hH hs1 hs2 hEK1 hlt
          generalize hPP : (b.drop EK).take N = P at *
          clear hPP
          go_wp2_with (go_at_call 42; refine (HALL.out _ HRK.out).mono ?_; rintro e w3 ⟨rfl, hb3⟩; have c0 : w3.cell? ⟨r, 0, none⟩ = some (.int .i64 (s : Int)) := (by rw [(HRK.out.fk.below hb3).blk.cell]; rfl))
          obtain ⟨f2, f3⟩ := HF2.out
          go_quiet (fail)
          have Z3 := hide (hb3.trans ((below_drewN (Below.refl w3.heap.size w3) nq).mono hb3.size))
          revert Z3
          generalize w3.drewN nq = w4
          intro Z3
          clear hb3 c0 f1 f2 f3 hs0
          have hcut : ∀ (v : Value) (W : World), v = .slice ak LR ck → True := fun _ _ _ => trivial
          have ho0 : Own (w4.alloc (.cells #[] 5)) w4.heap.size (.slice (some ⟨w4.heap.size, 0, none⟩) 0 0) [] := Own.of_blk (xs := []) (Blk.made w4 5 []) (Nat.le_refl _) (by simp)
          have hb0 : Below w4.heap.size w4 (w4.alloc (.cells #[] 5)) := (Below.refl _ _).alloc (Nat.le_refl _) _
          have HO0 := hide ho0
          have HB0 := hide hb0
          have Y4 : Hid (Sl (w4.alloc (.cells #[] 5)) ak N ck P) := hide (HTS.out _ ((HSK.out.below Z3.out).below HB0.out))
          clear ho0 hb0 hcut
          rcases hcase with ⟨hc, hNe⟩ | ⟨hc, hNe⟩
          · have hNi : (N : Int) = (LR : Int) := by rw [hNe]
            subst hNe
            clear hNi
            go_wp2_with (first | (refine step_append rfl rfl rfl HO0.out Y4.out HSM.out (by simp) ?_; intro v1 w5 ho1 hg1 hn1; have hb1 : Hid (Below w4.heap.size w4 w5) := hide (HB0.out.trans (Below.of_grown hg1 HB0.out.size HO0.out.lt)); rw [List.nil_append] at ho1; have HO1 := hide ho1; clear ho1 hg1 hn1; obtain ⟨a1, c1, hve1⟩ := HO1.out.slice; subst hve1) | (refine step_bR2 rfl rfl rfl ?_))
            have Z5 := hide (Z3.out.trans (hb1.out.mono Z3.out.size))
            have BV1 := HO1.out.bv HPB.out HPS.out HP0.out
            refine (doR_any r s rsK R1 (rAp n P) _ _ (HRK.out.below Z5.out) HLR.out BV1 HWX.out).mono ?_
            rintro e w6 ⟨rfl, hR⟩
            have HSK6 : Sl w6 ak N ck (b.drop EK) := HSK.out.same (fun x hx => by
              obtain ⟨y, hy, hyb⟩ := HAK.out x hx
              obtain ⟨o1, o2⟩ := HOFF.out y hy
              rw [hyb] at o1 o2
              have hsz := G2.out.size
              obtain ⟨R6, q1, q2, q3, q4⟩ := hR
              have hsz5 := Z5.out.size
              rw [q2.block x.block (by omega) (fun e => by
                rcases G3.out x.block e with e | e
                · exact o1 e
                · omega)]
              exact Z5.out.block x.block (by omega))
            have I6 : Hid (ApI w w6 r s rs R n b xs a (k + 1) (.slice a2 (N - N) (ck - N))) := hide ⟨HLT.out, ⟨a2, ck - N, by rw [HE1.out, HLR1.out], by
                rw [HE1.out, HLR1.out, ← HDD.out]
                exact HFS.out _ HSK6, fun x hx => by
                obtain ⟨y, hy, hyb⟩ := HAB.out x hx
                obtain ⟨y', hy', hyb'⟩ := HAK.out y hy
                exact ⟨y', hy', by rw [hyb', hyb]⟩⟩, by
                rw [HET.out]
                refine RoP.step (G2.out.thenBelow Z5.out) G3.out G4.out (fun q hq => ?_) hR
                have h1 := HO1.out.lt q hq
                have h2 := G2.out.size
                have h3 := Z3.out.size
                omega⟩
            clear HSK6 hR BV1
            go_wp2
            go_roundw
            case rel => first | exact ⟨k + 1, I6⟩ | exact ⟨k + 1, by have h9 := I6; rw [Nat.sub_self] at h9; exact h9⟩
            case measure =>
              have := HNL.out
              first | (show N - N < N; omega) | (show 0 < N; omega)
          · have hNi : (N : Int) = (T : Int) := by rw [hNe]
            subst hNe
            clear hNi
            go_wp2_with (first | (refine step_append rfl rfl rfl HO0.out Y4.out HSM.out (by simp) ?_; intro v1 w5 ho1 hg1 hn1; have hb1 : Hid (Below w4.heap.size w4 w5) := hide (HB0.out.trans (Below.of_grown hg1 HB0.out.size HO0.out.lt)); rw [List.nil_append] at ho1; have HO1 := hide ho1; clear ho1 hg1 hn1; obtain ⟨a1, c1, hve1⟩ := HO1.out.slice; subst hve1) | (refine step_bR2 rfl rfl rfl ?_))
            have Z5 := hide (Z3.out.trans (hb1.out.mono Z3.out.size))
            have BV1 := HO1.out.bv HPB.out HPS.out HP0.out
            refine (doR_any r s rsK R1 (rAp n P) _ _ (HRK.out.below Z5.out) HLR.out BV1 HWX.out).mono ?_
            rintro e w6 ⟨rfl, hR⟩
            have HSK6 : Sl w6 ak LR ck (b.drop EK) := HSK.out.same (fun x hx => by
              obtain ⟨y, hy, hyb⟩ := HAK.out x hx
              obtain ⟨o1, o2⟩ := HOFF.out y hy
              rw [hyb] at o1 o2
              have hsz := G2.out.size
              obtain ⟨R6, q1, q2, q3, q4⟩ := hR
              have hsz5 := Z5.out.size
              rw [q2.block x.block (by omega) (fun e => by
                rcases G3.out x.block e with e | e
                · exact o1 e
                · omega)]
              exact Z5.out.block x.block (by omega))
            have I6 : Hid (ApI w w6 r s rs R n b xs a (k + 1) (.slice a2 (LR - N) (ck - N))) := hide ⟨HLT.out, ⟨a2, ck - N, by rw [HE1.out, HLR1.out], by
                rw [HE1.out, HLR1.out, ← HDD.out]
                exact HFS.out _ HSK6, fun x hx => by
                obtain ⟨y, hy, hyb⟩ := HAB.out x hx
                obtain ⟨y', hy', hyb'⟩ := HAK.out y hy
                exact ⟨y', hy', by rw [hyb', hyb]⟩⟩, by
                rw [HET.out]
                refine RoP.step (G2.out.thenBelow Z5.out) G3.out G4.out (fun q hq => ?_) hR
                have h1 := HO1.out.lt q hq
                have h2 := G2.out.size
                have h3 := Z3.out.size
                omega⟩
            clear HSK6 hR BV1
            go_wp2
            go_roundw
            case rel => first | exact ⟨k + 1, I6⟩ | exact ⟨k + 1, by have h9 := I6; rw [Nat.sub_self] at h9; exact h9⟩
            case measure =>
              have := HNL.out
              first | (show LR - N < LR; omega) | (show 0 < N; omega)
        · have hkc : k = cntN s xs.length b.length := by have := HI.out.le; omega
          have hed : edgeN s xs.length b.length k = b.length := edge_cnt hs1 (by omega)
          rw [hed, Nat.sub_self]
          have hex : expd s ⟨rAp n b, rs.length, xs.length⟩ = expK s ⟨rAp n b, rs.length, xs.length⟩ k := by rw [hkc]; rfl
          have HRK := hide HI.out.rk
          rw [← hex] at HRK
          clear hsk hak g1 g2 g3 g4 hed hex hkc hlt
          go_wp2
          go_ret
          exact ⟨rfl, HRK.out⟩
  · have e2 : apS s rs n b = rs := by simp [apS, h0]
    rw [e2]
    generalize fE rs n = E at HWR h0
    clear e2
    go_enter Try.func13, Try.ntmps13
    go_wp2_with (go_at_call 39; refine HWR.out.mono ?_; rintro e w2 ⟨rfl, hb2⟩)
    go_ret
    exact ⟨rfl, RoP.below HH.out hb2⟩

end Go.Proofs.Ytnkjdoghfdnlaaa
