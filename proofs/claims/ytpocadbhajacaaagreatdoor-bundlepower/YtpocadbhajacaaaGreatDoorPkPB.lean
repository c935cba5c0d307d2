/-
  Texts one behind the other: Bwe Bwf Bwg Bwh Bwi Bxp Bwj Skr.
-/
import Derived.Test.YtpocadbhajacaaaGreatDoorPkPA
import Derived.Test.YtpocadbhajacaaaGreatDoorSgb

/-
  The way through a file's whole leaves: the contract of what whole hands back.
-/
namespace Go.Proofs.YtpocadbhajacaaaGreatDoor
open Go.RowKit Go.Shelf
set_option linter.unusedVariables false
set_option linter.unusedSimpArgs false
set_option maxRecDepth 100000

theorem fE_fl {w : World} {d s : Nat} {rs : List Rw} {D : Dm} (h : DkAt w d s rs D) {n : ByteArray} (hf : fE rs n ≠ 0) : fl (play rs) n = [] := by
  have hnone : play rs n = none := by
    by_cases hn : nmB n = true
    · cases hp : play rs n with
      | none => rfl
      | some xs => simp [fE, hn, hp] at hf
    · exact Nmd.play h.valS n (by simpa using hn)
  simp [fl, hnone]
/-- What is read of a file, from a place in it. -/
theorem rq_in {w : World} {d s : Nat} {rs : List Rw} {D : Dm} (h : DkAt w d s rs D) (n : ByteArray) (p q : Nat) (hp : p ≤ (fl (play rs) n).length) : rqE rs n (p : Int) (q : Int) = fE rs n ∧ rqB rs n (p : Int) (q : Int) = ((fl (play rs) n).drop p).take q := by
  have e1 : rqE rs n (p : Int) (q : Int) = fE rs n := by
    unfold rqE
    by_cases hf : fE rs n = 0
    · rw [if_pos hf, if_neg (by omega), hf]
    · rw [if_neg hf]
  refine ⟨e1, ?_⟩
  unfold rqB
  rw [e1]
  by_cases hf : fE rs n = 0
  · rw [if_pos hf]
    simp only [Int.toNat_natCast]
    rcases Nat.le_total q ((fl (play rs) n).length - p) with h1 | h1
    · rw [Nat.min_eq_left h1]
    · rw [Nat.min_eq_right h1, List.take_of_length_le (by rw [List.length_drop]; omega), List.take_of_length_le (by rw [List.length_drop]; omega)]
  · rw [if_neg hf, fE_fl h hf]
    simp
theorem wrap_powB {H P : Nat} (hh : hB H) (hP : 2 ^ H = P) : wrap64 (2 ^ H) = (P : Int) := by
  have e : ((2 : Int) ^ H) = (P : Int) := by rw [← hP]; simp [Int.natCast_pow]
  have := hh.pow
  rw [e]
  unfold wrap64
  omega
/-- Two bytes. -/
theorem rd_two (a c : Int) : rdV [a, c] 0 2 = a * 256 + c ∧ rdE 2 0 2 = 0 := by
  refine ⟨?_, by decide⟩
  simp [rdV, beVal]
theorem rd_few {ys : List Int} (h : ys.length < 2) : rdE ys.length 0 2 = 10 := by
  unfold rdE
  rw [if_neg (by omega), if_pos (by omega)]
set_option maxHeartbeats 4000000 in
theorem whole_seq (d s : Nat) (rs : List Rw) (D : Dm) (gd gh gn H : Nat) (nm : ByteArray) (B : Nat) (w : World) (h : WAt w d s rs D gd gh gn H nm B) (hh : hB H) (hwt : wt rs ≤ 1099511000000) :
    SeqQ Fence.wide 3 Tryz.prog 77 #[.pointer (some ⟨gd, 0, none⟩), .pointer (some ⟨gn, 0, none⟩), .pointer (some ⟨gh, 0, none⟩)] encW (RW nm (wl (2 ^ H) (fl (play rs) nm))) (fun _ => KB B (FD d D)) (fun ys => ys = wls nm (wl (2 ^ H) (fl (play rs) nm)) (wl (2 ^ H) (fl (play rs) nm)).length) (fun ys => ∃ k, k ≤ (wl (2 ^ H) (fl (play rs) nm)).length ∧ ys = wls nm (wl (2 ^ H) (fl (play rs) nm)) k) w := by
  intro l0 J Jx W hW hJ hJx hY h0
  have H0 := hide (h.below hW)
  have HJ0 := hide h0
  obtain ⟨b, HB⟩ : ∃ b, Hid (fl (play rs) nm = b) := ⟨_, hide rfl⟩
  have hbb := h.dk.byB nm
  have hbl : b.length ≤ 1099511000000 := by rw [← HB.out]; exact Nat.le_trans (play_wt _ _) hwt
  have hsz0 : W.cell? ⟨gn, 0, none⟩ = some (.string nm) := by rw [H0.out.bn.cell]; rfl
  have hsd0 : W.cell? ⟨gd, 0, none⟩ = some (.pointer (some ⟨d, 0, none⟩)) := by rw [H0.out.bd.cell]; rfl
  have hsh0 : W.cell? ⟨gh, 0, none⟩ = some (.int .i64 (H : Int)) := by rw [H0.out.bh.cell]; rfl
  have hsz := size_any d s rs D W H0.out.dk nm
  rw [size_is H0.out.dk, HB.out] at hsz
  have HSZ := hide hsz
  have HRD0 : Hid (∀ (W : World), DkAt W d s rs D → ∀ p : Nat, p ≤ b.length → Calls Tryz.prog 50 #[.pointer (some ⟨d, 0, none⟩), .string nm, .int .i64 (p : Int), .int .i64 2] W fun e w' => ∃ v, e = .returned (.tuple #[v, .int .i64 (fE rs nm)]) ∧ Own w' W.heap.size v ((b.drop p).take 2) ∧ Below W.heap.size W w') := hide (fun W hW p hp => by
    have := read_any d s rs D W hW nm (p : Int) (2 : Nat) hwt
    obtain ⟨e1, e2⟩ := rq_in hW nm p 2 (by rw [HB.out]; exact hp)
    rw [e1, e2, HB.out] at this
    exact this)
  rw [HB.out] at hbb hY ⊢
  obtain ⟨P, HP⟩ : ∃ P, Hid (2 ^ H = P) := ⟨_, hide rfl⟩
  have HWP := hide (wrap_powB hh HP.out)
  have hP := hh.pow
  rw [HP.out] at hP hY ⊢
  have HBB := hide hbb
  obtain ⟨ls, HLS⟩ : ∃ ls, Hid (wl P b = ls) := ⟨_, hide rfl⟩
  have hLP : ls.length ≤ P := by rw [← HLS.out]; exact wl_le _ _
  rw [HLS.out] at hY ⊢
  obtain ⟨hPlo, hPhi⟩ := hP
  have hH8 := hh.2
  have hHi : (H : Int) ≤ 8 := by omega
  have HAT : Hid (∀ k, k < ls.length → ∃ t, b.drop (offL ls k) = lfB (ls.getD k []) ++ t) := hide (fun k hk => by
    rw [← HLS.out] at hk ⊢
    exact wl_at HBB.out hk)
  have HNX : Hid (∀ k, k < ls.length → offL ls k + 2 + (ls.getD k []).length ≤ b.length ∧ (ls.getD k []).length ≤ 65535) := hide (fun k hk => by
    rw [← HLS.out] at hk ⊢
    exact ⟨offL_next HBB.out hk, (wl_ok _ _ HBB.out _ (getD_mem hk)).1⟩)
  have HEN : Hid (ls.length < P → wl 1 (b.drop (offL ls ls.length)) = []) := hide (fun hk => by
    rw [← HLS.out] at hk ⊢
    rw [offL_all _ _ (Nat.le_refl _)]
    exact wl_end HBB.out hk)
  have HOL : Hid (∀ k, offL ls k ≤ b.length) := hide (fun k => by
    rw [← HLS.out]
    exact offL_le HBB.out k)
  clear h hW h0 hh hwt hsz hbb HB HLS
  refine callsIn_of_wp Tryz.func77 rfl trivial ?_ rfl
  simp only [Tryz.ntmps77, List.size_toArray, List.length_cons, List.length_nil, Nat.reduceAdd, Nat.reduceSub, Array.replicate_succ, Array.replicate_zero, List.push_toArray, List.append_toArray, List.nil_append, List.cons_append]
  refine wpIn_wide.2 ?_
  go_wp2_with fail
  refine HSZ.out.mono ?_
  rintro r w' ⟨rfl, rfl⟩
  go_wp2_with (rw [HWP.out])
  try simp only [Act.put]
  refine (wpIn_wide (n := 3)).1 ?_
  gi_loopw [23, 7] (fun i p wr => ∃ (k : Nat) (pre : List (Nat × Plc)), k ≤ ls.length ∧ i = .int .i64 (k : Int) ∧ p = .int .i64 ((offL ls k : Nat) : Int) ∧ Hid (pre = wls nm ls k) ∧ Hid (J pre wr) ∧ Hid (WAt wr d s rs D gd gh gn H nm B)) (fun i _ _ => P - (intOf i).toNat)
  case atStart => exact ⟨0, [], Nat.zero_le _, rfl, by rw [offL_zero]; rfl, hide rfl, HJ0, H0⟩
  case round =>
    clear H0 HJ0 hsz0 hsd0 hsh0 HSZ
    obtain ⟨k, pre, hk, rfl, rfl, HPR, HJ, HA⟩ := hrel
    by_cases hkP : k < P
    · have hkPi : (k : Int) < (P : Int) := by omega
      have hat := HOL.out k
      have hc1 : wr.cell? ⟨gd, 0, none⟩ = some (.pointer (some ⟨d, 0, none⟩)) := by rw [HA.out.bd.cell]; rfl
      have hc2 : wr.cell? ⟨gn, 0, none⟩ = some (.string nm) := by rw [HA.out.bn.cell]; rfl
      have HRDk := hide (fun (W : World) (hW : DkAt W d s rs D) => HRD0.out W hW (offL ls k) hat)
      by_cases hkl : k < ls.length
      · obtain ⟨t, ht⟩ := HAT.out k hkl
        have hnx := HNX.out k hkl
        have hof := offL_succ hkl
        have HRA : Hid (∀ V : World, RW nm ls pre (k, plK nm ls k) wr V) := hide (fun V => by
          have hpl : pre.length = k := by rw [HPR.out, wls_len]
          exact ⟨by rw [hpl]; exact hkl, by rw [hpl]; exact HPR.out, by rw [hpl]⟩)
        have HM : Hid (pre ++ [(k, plK nm ls k)] = wls nm ls (k + 1)) := hide (by rw [wls_succ, HPR.out])
        have HPK : Hid (plK nm ls k = (nm, offL ls k + 2, (ls.getD k []).length)) := hide rfl
        obtain ⟨ys, HYS⟩ : ∃ ys, Hid ((b.drop (offL ls k)).take 2 = ys) := ⟨_, hide rfl⟩
        have hys : ys = [(((ls.getD k []).length / 256 : Nat) : Int), (((ls.getD k []).length % 256 : Nat) : Int)] := by rw [← HYS.out, ht]; rfl
        have HRD := HRDk
        rw [HYS.out] at HRD
        have HYB : Hid (isB ys) := hide (by rw [← HYS.out]; exact (HBB.out.dropS _).takeS _)
        have HYL : Hid (ys.length = 2) := hide (by rw [hys]; rfl)
        have hyl2 : (2 : Nat) ≤ 2 := by omega
        have HYV : Hid (rdV ys 0 2 = (((ls.getD k []).length : Nat) : Int)) := hide (by rw [hys, (rd_two _ _).1]; omega)
        have HYE : Hid (rdE 2 0 2 = 0) := hide (rd_two 0 0).2
        have HON := hide hof
        clear ht hys HYS HRDk hof
        generalize hvv : (ls.getD k []).length = vv at *
        obtain ⟨on, HOO⟩ : ∃ on, Hid (offL ls (k + 1) = on) := ⟨_, hide rfl⟩
        rw [HOO.out] at HON
        generalize hat' : offL ls k = at' at *
        clear hvv hat'
        obtain ⟨hn1, hn2⟩ := hnx
        have hge : ¬ (b.length : Int) < ((at' + 2 + vv : Nat) : Int) := by omega
        have hge2 : decide ((b.length : Int) < (at' : Int) + 2 + (vv : Int)) = false := decide_eq_false (by omega)
        gi_wp2_with fail
        refine ⟨trivial, (callsIn_wide.2 (HRD.out _ HA.out.dk)).mono ?_⟩
        rintro e w1 ⟨v, rfl, ho1, hb1⟩
        obtain ⟨va, vc, rfl, hs1⟩ := ho1.sl' HYB.out (by rw [HYL.out]; omega)
        rw [HYL.out] at hs1 ⊢
        have HS1 := hide hs1
        have HA1 := hide (HA.out.below hb1)
        have HJ1 := hide (hJ _ wr w1 none HJ.out ⟨hb1.os, hb1.tape, hb1.output, hb1.size, fun i hi _ => hb1.block i hi⟩ (fun r e => by cases e))
        have HB1 := hide hb1
        clear hs1 ho1 hb1 hc1 hc2
        gi_wp2_with fail
        refine ⟨trivial, (callsIn_wide.2 (uint16_any _ _ _ _ _ _ HS1.out)).mono ?_⟩
        rintro e w2 ⟨rfl, rfl⟩
        rw [HYV.out, HYE.out]
        have hc3 : w1.cell? ⟨gn, 0, none⟩ = some (.string nm) := by rw [HA1.out.bn.cell]; rfl
        gi_wp2_with (first | (refine istep_buildPl WideF.wide rfl rfl rfl rfl ?_) | (refine istep_alloc WideF.wide zPl rfl ?_))
        intro w3 g3 hg3 hle3 hb3
        have HG3 := hide hg3
        have HL3 := hide hle3
        have HB3 := hide (on_below HB1.out hb3)
        have HA3 := hide (HA1.out.below hb3)
        have HJ3 := hide (hJ _ w1 w3 none HJ1.out ⟨hb3.os, hb3.tape, hb3.output, hb3.size, fun i hi _ => hb3.block i hi⟩ (fun r e => by cases e))
        clear hg3 hle3 hb3 hc3
        gi_wp2_with (refine istep_storeA WideF.wide wPl rfl rfl rfl HG3.out rfl (One.pl (nm, at' + 2, vv)) rfl ?_)
        intro w4 hg4 hbut
        have hgw : wr.heap.size ≤ g3 := Nat.le_trans HB1.out.size HL3.out
        have HG4 := hide hg4
        have HB4 := hide (HB3.out.trans (hbut.below hgw))
        have HA4 := hide (HA.out.below HB4.out)
        have HJ4 := hide (hJ _ wr w4 none HJ.out ⟨HB4.out.os, HB4.out.tape, HB4.out.output, HB4.out.size, fun i hi _ => HB4.out.block i hi⟩ (fun r e => by cases e))
        clear hg4 hbut HG3 HL3 HB3 HA3 HJ3 HB1 HA1 HJ1 HS1
        gi_wp2_with (first | (refine istep_loadA WideF.wide wPl rfl rfl HG4.out rfl ?_))
        refine ⟨trivial, (callsIn_wide.2 (end_any (nm, at' + 2, vv) _ (by simp only; omega))).mono ?_⟩
        rintro e w5 ⟨rfl, hb5⟩
        have HG5 := hide (HG4.out.on hb5)
        have HB5 := hide (on_below HB4.out hb5)
        have HJ5 := hide (hJ _ wr w5 none HJ.out ⟨HB5.out.os, HB5.out.tape, HB5.out.output, HB5.out.size, fun i hi _ => HB5.out.block i hi⟩ (fun r e => by cases e))
        have HA5 := hide (HA.out.below HB5.out)
        have HBG : Hid (B ≤ g3) := hide (by have h1 := HA.out.le.1; have h2 := HA.out.bd.lt; omega)
        clear hb5 HG4 HB4 HA4 HJ4
        try simp only at hge
        obtain ⟨fn, tmps, assign, body, hy, hR⟩ := hY pre (k, plK nm ls k) wr w5 HJ.out HB5.out HJ5.out (HRA.out w5)
        simp only [encW] at hy
        rw [HPK.out] at hy
        gi_wp2_with (first | (refine istep_loadA WideF.wide wPl rfl rfl HG5.out rfl ?_))
        refine hR.mono ?_
        rintro r W7 (⟨rfl, hJ7, hk7⟩ | ⟨rfl, hJx7⟩)
        · have HJ7 := hide hJ7
          have HA7 := hide (HA5.out.kb hk7)
          have HG7 := hide (hk7.rest _ _ _ HBG.out (by decide) HG5.out)
          clear hJ7 hk7 hy hR HJ HA HJ5 HA5 HG5 HPR HB5 HRD HRA
          gi_wp2_with (first | (refine istep_loadA WideF.wide wPl rfl rfl HG7.out rfl ?_))
          refine ⟨trivial, (callsIn_wide.2 (end_any (nm, at' + 2, vv) _ (by simp only; omega))).mono ?_⟩
          rintro e w8 ⟨rfl, hb8⟩
          have HA8 := hide (HA7.out.below hb8)
          have HJ8 := hide (hJ _ W7 w8 none HJ7.out ⟨hb8.os, hb8.tape, hb8.output, hb8.size, fun i hi _ => hb8.block i hi⟩ (fun r e => by cases e))
          clear hb8 HA7 HJ7 HG7
          gi_wp2
          go_roundw
          case rel => exact ⟨k + 1, _, by omega, by go_num, by rw [HOO.out, HON.out]; rfl, HM.out.symm ▸ hide rfl, HJ8, HA8⟩
          case measure => simp only [intOf]; omega
        · have HJx7 := hide hJx7
          clear hJx7 hy hR HJ HA HJ5 HA5 HG5 HPR HB5 HRD HRA
          gi_wp2
          refine bodyPost_ret (results_none rfl _ _ _) rfl ?_
          exact ⟨⟨_, rfl⟩, .inr ⟨_, ⟨k + 1, by omega, HM.out⟩, HJx7.out⟩⟩
      · have hke : k = ls.length := by omega
        have hen := HEN.out (by omega)
        rw [← hke] at hen
        have HFIN : Hid (pre = wls nm ls ls.length) := hide (by rw [← hke]; exact HPR.out)
        by_cases h2 : (b.drop (offL ls k)).length < 2
        · obtain ⟨ys, HYS⟩ : ∃ ys, Hid ((b.drop (offL ls k)).take 2 = ys) := ⟨_, hide rfl⟩
          have HRD := HRDk
          rw [HYS.out] at HRD
          have HYB : Hid (isB ys) := hide (by rw [← HYS.out]; exact (HBB.out.dropS _).takeS _)
          have hyl : ys.length < 2 := by rw [← HYS.out, List.length_take]; omega
          have HYE0 := rd_few hyl
          obtain ⟨yl, HYL⟩ : ∃ yl, Hid (ys.length = yl) := ⟨_, hide rfl⟩
          rw [HYL.out] at HYE0 hyl
          have hyl2 : yl ≤ 2 := by omega
          have HYE := hide HYE0
          obtain ⟨vv, hvv⟩ : ∃ vv : Nat, rdV ys 0 2 = (vv : Int) := ⟨(rdV ys 0 2).toNat, by have := (rdV_bd ys HYB.out 0 2).1; omega⟩
          have HYV := hide hvv
          have hvb : vv ≤ 65535 := by have := (rdV_bd ys HYB.out 0 2).2; rw [hvv] at this; omega
          clear HYE0 hvv hen h2 HYS hke
          generalize hat' : offL ls k = at' at *
          clear hat'
          gi_wp2_with fail
          refine ⟨trivial, (callsIn_wide.2 (HRD.out _ HA.out.dk)).mono ?_⟩
          rintro e w1 ⟨v, rfl, ho1, hb1⟩
          obtain ⟨va, vc, rfl, hs1⟩ := ho1.sl' HYB.out (by rw [HYL.out]; omega)
          rw [HYL.out] at hs1 ⊢
          have HS1 := hide hs1
          have HA1 := hide (HA.out.below hb1)
          have HJ1 := hide (hJ _ wr w1 none HJ.out ⟨hb1.os, hb1.tape, hb1.output, hb1.size, fun i hi _ => hb1.block i hi⟩ (fun r e => by cases e))
          have HB1 := hide hb1
          clear hs1 ho1 hb1 hc1 hc2
          gi_wp2_with fail
          refine ⟨trivial, (callsIn_wide.2 (uint16_any _ _ _ _ _ _ HS1.out)).mono ?_⟩
          rintro e w2 ⟨rfl, rfl⟩
          rw [HYV.out, HYE.out]
          have hc3 : w1.cell? ⟨gn, 0, none⟩ = some (.string nm) := by rw [HA1.out.bn.cell]; rfl
          gi_wp2_with (first | (refine istep_buildPl WideF.wide rfl rfl rfl rfl ?_) | (refine istep_alloc WideF.wide zPl rfl ?_))
          intro w3 g3 hg3 hle3 hb3
          have HG3 := hide hg3
          have HL3 := hide hle3
          have HB3 := hide (on_below HB1.out hb3)
          have HA3 := hide (HA1.out.below hb3)
          have HJ3 := hide (hJ _ w1 w3 none HJ1.out ⟨hb3.os, hb3.tape, hb3.output, hb3.size, fun i hi _ => hb3.block i hi⟩ (fun r e => by cases e))
          clear hg3 hle3 hb3 hc3
          gi_wp2_with (refine istep_storeA WideF.wide wPl rfl rfl rfl HG3.out rfl (One.pl (nm, at' + 2, vv)) rfl ?_)
          intro w4 hg4 hbut
          have hgw : wr.heap.size ≤ g3 := Nat.le_trans HB1.out.size HL3.out
          have HG4 := hide hg4
          have HB4 := hide (HB3.out.trans (hbut.below hgw))
          have HA4 := hide (HA.out.below HB4.out)
          have HJ4 := hide (hJ _ wr w4 none HJ.out ⟨HB4.out.os, HB4.out.tape, HB4.out.output, HB4.out.size, fun i hi _ => HB4.out.block i hi⟩ (fun r e => by cases e))
          clear hg4 hbut HG3 HL3 HB3 HA3 HJ3 HB1 HA1 HJ1 HS1
          gi_wp2
          refine ⟨trivial, ?_⟩
          gi_wp2
          refine ⟨(fun f h => by cases h), ?_⟩
          gi_wp2
          refine bodyPost_ret (results_none rfl _ _ _) rfl ?_
          exact ⟨⟨_, rfl⟩, .inl ⟨_, HFIN.out, HJ4.out⟩⟩
        · obtain ⟨x, c, t, ht⟩ : ∃ x c t, b.drop (offL ls k) = x :: c :: t := by
            match hm : b.drop (offL ls k) with
            | [] => simp [hm] at h2
            | [_] => simp [hm] at h2
            | x :: c :: t => exact ⟨x, c, t, rfl⟩
          rw [ht] at hen
          have hlo := wl1_cons hen
          have hbt : b.length = offL ls k + 2 + t.length := by
            have := congrArg List.length ht
            rw [List.length_drop] at this
            simp at this
            omega
          have hxb : isB (x :: c :: t) := by rw [← ht]; exact HBB.out.dropS _
          have hx0 := hxb x (by simp)
          have hc0 := hxb c (by simp)
          obtain ⟨ys, HYS⟩ : ∃ ys, Hid ((b.drop (offL ls k)).take 2 = ys) := ⟨_, hide rfl⟩
          have HRD := HRDk
          rw [HYS.out] at HRD
          have hys : ys = [x, c] := by rw [← HYS.out, ht]; rfl
          have HYB : Hid (isB ys) := hide (by rw [← HYS.out]; exact (HBB.out.dropS _).takeS _)
          have HYL : Hid (ys.length = 2) := hide (by rw [hys]; rfl)
          have hyl2 : (2 : Nat) ≤ 2 := by omega
          obtain ⟨vv, hvv⟩ : ∃ vv : Nat, (x * 256 + c) = (vv : Int) := ⟨(x * 256 + c).toNat, by omega⟩
          have HYV : Hid (rdV ys 0 2 = (vv : Int)) := hide (by rw [hys, (rd_two _ _).1, hvv])
          have HYE : Hid (rdE 2 0 2 = 0) := hide (rd_two 0 0).2
          rw [hvv] at hlo
          have hgt : (b.length : Int) < ((offL ls k + 2 + vv : Nat) : Int) := by omega
          have hvb : vv ≤ 70000 := by omega
          have hgt2 : decide ((b.length : Int) < (offL ls k : Int) + 2 + (vv : Int)) = true := decide_eq_true (by omega)
          clear ht hys HYS hen h2 hx0 hc0 hxb hvv hlo hbt hke
          generalize hat' : offL ls k = at' at *
          clear hat'
          gi_wp2_with fail
          refine ⟨trivial, (callsIn_wide.2 (HRD.out _ HA.out.dk)).mono ?_⟩
          rintro e w1 ⟨v, rfl, ho1, hb1⟩
          obtain ⟨va, vc, rfl, hs1⟩ := ho1.sl' HYB.out (by rw [HYL.out]; omega)
          rw [HYL.out] at hs1 ⊢
          have HS1 := hide hs1
          have HA1 := hide (HA.out.below hb1)
          have HJ1 := hide (hJ _ wr w1 none HJ.out ⟨hb1.os, hb1.tape, hb1.output, hb1.size, fun i hi _ => hb1.block i hi⟩ (fun r e => by cases e))
          have HB1 := hide hb1
          clear hs1 ho1 hb1 hc1 hc2
          gi_wp2_with fail
          refine ⟨trivial, (callsIn_wide.2 (uint16_any _ _ _ _ _ _ HS1.out)).mono ?_⟩
          rintro e w2 ⟨rfl, rfl⟩
          rw [HYV.out, HYE.out]
          have hc3 : w1.cell? ⟨gn, 0, none⟩ = some (.string nm) := by rw [HA1.out.bn.cell]; rfl
          gi_wp2_with (first | (refine istep_buildPl WideF.wide rfl rfl rfl rfl ?_) | (refine istep_alloc WideF.wide zPl rfl ?_))
          intro w3 g3 hg3 hle3 hb3
          have HG3 := hide hg3
          have HL3 := hide hle3
          have HB3 := hide (on_below HB1.out hb3)
          have HA3 := hide (HA1.out.below hb3)
          have HJ3 := hide (hJ _ w1 w3 none HJ1.out ⟨hb3.os, hb3.tape, hb3.output, hb3.size, fun i hi _ => hb3.block i hi⟩ (fun r e => by cases e))
          clear hg3 hle3 hb3 hc3
          gi_wp2_with (refine istep_storeA WideF.wide wPl rfl rfl rfl HG3.out rfl (One.pl (nm, at' + 2, vv)) rfl ?_)
          intro w4 hg4 hbut
          have hgw : wr.heap.size ≤ g3 := Nat.le_trans HB1.out.size HL3.out
          have HG4 := hide hg4
          have HB4 := hide (HB3.out.trans (hbut.below hgw))
          have HA4 := hide (HA.out.below HB4.out)
          have HJ4 := hide (hJ _ wr w4 none HJ.out ⟨HB4.out.os, HB4.out.tape, HB4.out.output, HB4.out.size, fun i hi _ => HB4.out.block i hi⟩ (fun r e => by cases e))
          clear hg4 hbut HG3 HL3 HB3 HA3 HJ3 HB1 HA1 HJ1 HS1
          gi_wp2_with (first | (refine istep_loadA WideF.wide wPl rfl rfl HG4.out rfl ?_))
          refine ⟨trivial, (callsIn_wide.2 (end_any (nm, at' + 2, vv) _ (by simp only; omega))).mono ?_⟩
          rintro e w5 ⟨rfl, hb5⟩
          have HJ5 := hide (hJ _ w4 w5 none HJ4.out ⟨hb5.os, hb5.tape, hb5.output, hb5.size, fun i hi _ => hb5.block i hi⟩ (fun r e => by cases e))
          clear hb5 HG4 HB4 HA4 HJ4
          try simp only at hgt
          gi_wp2
          refine ⟨(fun f h => by cases h), ?_⟩
          gi_wp2
          refine bodyPost_ret (results_none rfl _ _ _) rfl ?_
          exact ⟨⟨_, rfl⟩, .inl ⟨_, HFIN.out, HJ5.out⟩⟩
    · have hkPi : ¬ (k : Int) < (P : Int) := by omega
      have HFIN : Hid (pre = wls nm ls ls.length) := hide (by rw [HPR.out, show k = ls.length by omega])
      gi_wp2
      go_end0
      exact ⟨⟨_, rfl⟩, .inl (HFIN.out ▸ HJ.out)⟩

end Go.Proofs.YtpocadbhajacaaaGreatDoor

/-
  How many bytes the first leaves of a file have: sizeOf; a file made ready.
-/
namespace Go.Proofs.YtpocadbhajacaaaGreatDoor
open Go.RowKit Go.Shelf
set_option linter.unusedVariables false
set_option linter.unusedSimpArgs false
set_option maxRecDepth 100000

theorem YieldAt.imp {F : Fence} {m : Nat} {P : Program} {l : Nat} {args : Array Value} {W : World} {R R' : Ending → World → Prop} (h : YieldAt F m P l args W R) (hr : ∀ e w', R e w' → R' e w') : YieldAt F m P l args W R' := by
  obtain ⟨fn, tmps, assign, body, h1, h2⟩ := h
  exact ⟨fn, tmps, assign, body, h1, h2.mono hr⟩
theorem OwnFrom.abides {β : Type} {B : Nat} {J : β → World → Prop} (h : OwnFrom B J) : AbidesFrom B J := fun s W W' row hs hg hr => h s W W' row hs hg (fun r e => by obtain ⟨h1, o, h2, h3⟩ := hr r e; exact ⟨h1, o, h2, Obj.not_cells_of_walk h3⟩)
theorem SeqQ.toL {α : Type} {F : Fence} {n : Nat} {P : Program} {g : Nat} {lb : Array Value} {encs : α → Array Value} {R : List α → α → World → World → Prop} {Kp : α → World → World → Prop} {S Sp : List α → Prop} {w : World} (h : SeqQ F n P g lb encs R Kp S Sp w) : SeqL F n P g lb encs R Kp S Sp w := by
  intro l J Jx W hW hJ hJx hY h0
  exact h l J Jx W hW (OwnFrom.abides hJ) (OwnFrom.abides hJx) (fun pre x W0 W1 a b c d => YieldAt.imp (hY pre x W0 W1 a b c d) (fun e w' hp => by
    rcases hp with ⟨h1, h2, h3, _⟩ | ⟨h1, h2, _⟩
    · exact .inl ⟨h1, h2, h3⟩
    · exact .inr ⟨h1, h2⟩)) h0
theorem blk_loop {g : Nat} {t : TypeId} {cs : List Value} (V : World) (l : Nat) (r : Loop) (o' : Obj) (hl : V.heap[l]? = some (.loop r)) (hx : Blk V g t cs) : Blk (V.putObj l o') g t cs := by
  unfold Blk
  rw [World.putObj_heap_other (fun e => by
    rw [e] at hx
    unfold Blk at hx
    rw [hl] at hx
    cases hx)]
  exact hx
/-- What stands while leaves are passed. -/
structure ZS (w W : World) (b7 b9 k n : Nat) : Prop where
  c7 : Blk W b7 3 [.int .i64 (k : Int)]
  c9 : Blk W b9 3 [.int .i64 (n : Int)]
  ne : b7 ≠ b9
  n9 : w.heap.size ≤ b9
  bel : Below w.heap.size w W
theorem ZS.ck {w W W' : World} {b7 b9 k n : Nat} (h : ZS w W b7 b9 k n) (hk : CK W W') (hb : Below w.heap.size w W') : ZS w W' b7 b9 k n := ⟨h.c7.ck hk, h.c9.ck hk, h.ne, h.n9, hb⟩
theorem ZS.on {w W W' : World} {b7 b9 k n : Nat} (h : ZS w W b7 b9 k n) (hb : Below W.heap.size W W') : ZS w W' b7 b9 k n := ⟨h.c7.on hb, h.c9.on hb, h.ne, h.n9, on_below h.bel hb⟩
section
variable (d s : Nat) (rs : List Rw) (D : Dm) (w : World) (hd : DkAt w d s rs D)
include hd
set_option maxHeartbeats 4000000 in
theorem sizeOf_any (H : Nat) (nm : ByteArray) (k : Nat) (hh : hB H) (hk : k ≤ 281474976710656) (ht : PT w) (hwt : wt rs ≤ 1099511000000) :
    Calls Tryz.prog 43 #[.pointer (some ⟨d, 0, none⟩), .int .i64 (H : Int), .string nm, .int .i64 (k : Int)] w fun r w' => r = .returned (.int .i64 ((offL (wl (2 ^ H) (fl (play rs) nm)) k : Nat) : Int)) ∧ Below w.heap.size w w' := by
  have HSQ0 : Hid (∀ (V : World) (gd gh gn B : Nat), WAt V d s rs D gd gh gn H nm B → SeqL Fence.wide 3 Tryz.prog 77 #[.pointer (some ⟨gd, 0, none⟩), .pointer (some ⟨gn, 0, none⟩), .pointer (some ⟨gh, 0, none⟩)] encW (RW nm (wl (2 ^ H) (fl (play rs) nm))) (fun _ => KB B (FD d D)) (fun ys => ys = wls nm (wl (2 ^ H) (fl (play rs) nm)) (wl (2 ^ H) (fl (play rs) nm)).length) (fun ys => ∃ k, k ≤ (wl (2 ^ H) (fl (play rs) nm)).length ∧ ys = wls nm (wl (2 ^ H) (fl (play rs) nm)) k) V) := hide (fun V gd gh gn B hA => (whole_seq d s rs D gd gh gn H nm B V hA hh hwt).toL)
  have hbl : ∀ j, offL (wl (2 ^ H) (fl (play rs) nm)) j ≤ 1099511000000 := fun j => Nat.le_trans (offL_le (hd.byB nm) j) (Nat.le_trans (play_wt _ _) hwt)
  obtain ⟨ls, HLS⟩ : ∃ ls, Hid (wl (2 ^ H) (fl (play rs) nm) = ls) := ⟨_, hide rfl⟩
  have HOS : Hid (∀ j, j < ls.length → offL ls (j + 1) = offL ls j + 2 + (ls.getD j []).length) := hide (fun j hj => offL_succ hj)
  rw [HLS.out] at HSQ0 hbl ⊢
  have HBL := hide hbl
  have hln : ls.length ≤ 256 := by rw [← HLS.out]; exact Nat.le_trans (wl_le _ _) hh.pow.2
  have HD := hide hd
  have HT := hide ht
  clear hd ht hwt hbl HLS
  refine (callsIn_wide (n := 4)).1 ?_
  refine callsIn_of_wp_marks Tryz.func43 rfl trivial ?_ rfl
  refine wpIn_wide.2 ?_
  simp only [Tryz.ntmps43, List.size_toArray, List.length_cons, List.length_nil, Nat.reduceAdd, Nat.reduceSub, Array.replicate_succ, Array.replicate_zero, List.push_toArray, List.append_toArray, List.nil_append, List.cons_append]
  go_wp2_with fail
  have heq : ∃ W b7 b9, W = (w.alloc (.cells #[.int .i64 (k : Int)] 3)).alloc (.cells #[.int .i64 0] 3) ∧ b7 = w.heap.size ∧ b9 = w.heap.size + 1 ∧ ZS w W b7 b9 k 0 := by
    refine ⟨_, _, _, rfl, rfl, rfl, ?_⟩
    have b1 : Below w.heap.size w (w.alloc (.cells #[.int .i64 (k : Int)] 3)) := (Below.refl _ _).alloc (Nat.le_refl _) _
    have B1 : Blk (w.alloc (.cells #[.int .i64 (k : Int)] 3)) w.heap.size 3 [.int .i64 (k : Int)] := Blk.made _ _ _
    have z1 : (w.alloc (.cells #[.int .i64 (k : Int)] 3)).heap.size = w.heap.size + 1 := World.size_alloc _ _
    generalize w.alloc (.cells #[.int .i64 (k : Int)] 3) = W1 at *
    have b2 : Below W1.heap.size W1 (W1.alloc (.cells #[.int .i64 0] 3)) := (Below.refl _ _).alloc (Nat.le_refl _) _
    have B2 : Blk (W1.alloc (.cells #[.int .i64 0] 3)) W1.heap.size 3 [.int .i64 0] := Blk.made _ _ _
    rw [z1] at B2
    exact ⟨B1.on b2, B2, by omega, by omega, on_below b1 b2⟩
  obtain ⟨W0, b7, b9, hW0, hb7, hb9, hz0⟩ := heq
  rw [← hW0, ← hb9, ← hb7]
  have hlt7 : b7 < W0.heap.size := hz0.c7.lt
  have hlt9 : b9 < W0.heap.size := hz0.c9.lt
  have HFL : Hid (∀ q, FD d D q → q < w.heap.size) := hide (fun q hq => fd_lt HD.out HT.out hq)
  have hw9 : w.heap.size ≤ b9 := hz0.n9
  have D0 := hide (fun (V : World) (hV : Below w.heap.size w V) => HD.out.below hV)
  clear hW0 hb7 hb9
  refine (whole_mk _ _ _ _).mono ?_
  rintro r w3 ⟨gd, gh, gn, rfl, BD, BH, BN, hgd, hgh, hgn, hb3⟩
  have HZ3 := hide (hz0.on hb3)
  have HSQ := hide (HSQ0.out w3 gd gh gn W0.heap.size ⟨D0.out _ HZ3.out.bel, HT.out.below HZ3.out.bel, BD, BH, BN, hgd, hgh, hgn⟩)
  have hs3 : W0.heap.size ≤ w3.heap.size := hb3.size
  clear hb3 BD BH BN hgd hgh hgn hz0
  go_wp2_with fail
  refine (wpIn_wide (n := 4)).1 ?_
  refine rangeB rfl (by decide) (gf := 77) (lb := #[.pointer (some ⟨gd, 0, none⟩), .pointer (some ⟨gn, 0, none⟩), .pointer (some ⟨gh, 0, none⟩)]) rfl trivial (enters_of Tryz.func77 (by kernel_rfl) rfl)
    HSQ.out KB.trans (fun x V l o o' hl h hc => KB.book (B' := w3.heap.size) (fun q hq => by have := HFL.out q hq; have := HZ3.out.bel.size; omega) V l o o' hl h hc) (fun x A C h => KB.below h) (fun _ => rfl) (fun pre x V0 => rw_own _ _ _ pre x V0)
    (fun pre V => pre.length ≤ k ∧ ZS w V b7 b9 k (offL ls pre.length)) (fun c pre V => c = .exit 0 ∧ ZS w V b7 b9 k (offL ls k))
    (fun _ A C row h hg hr => ⟨h.1, h.2.ck (CK.of_grown hg (fun r e => (hr r e).2)) (h.2.bel.grown hg h.2.bel.size (fun r e => by have := (hr r e).1; have := HZ3.out.bel.size; omega))⟩)
    (fun c _ A C row h hg hr => ⟨h.1, h.2.ck (CK.of_grown hg (fun r e => (hr r e).2)) (h.2.bel.grown hg h.2.bel.size (fun r e => by have := (hr r e).1; have := HZ3.out.bel.size; omega))⟩) ⟨Nat.zero_le _, by rw [List.length_nil, offL_zero]; exact HZ3.out⟩ ?act (fun x g V => Blk V g 102 (plV x.2)) (fun x g V l r o' hl hx => blk_loop V l r o' hl hx) ?assign ?body ?done ?stop
  case assign =>
    rintro l x V K ⟨pre, V0, h1, h2, h3⟩ hK
    have hsem := Oper.semAt_some
    simp only [encW]
    clear h1 h2 h3
    gi_wp2_with (refine istep_alloc (.round l) zPl rfl ?_)
    intro V1 g9 hg9 hle9 hb9
    gi_wp2_with (refine istep_storeA (.round l) wPl rfl rfl rfl hg9 rfl (One.pl x.2) rfl ?_)
    intro V2 hg92 hbut9
    have hb92 : Below V.heap.size V V2 := hb9.trans (hbut9.below hle9)
    have hK2 := hK g9 V2 hb92 hle9 hg92
    clear hK
    gi_wp2
    exact hK2
  case stop =>
    rintro D0 c pre V hD hSp ⟨rfl, hz⟩ hK
    have d9 : V.cell? ⟨b9, 0, none⟩ = some (.int .i64 (offL ls k : Int)) := by rw [hz.c9.cell]; rfl
    have HDK := hide hK
    have HBL2 := hide hz.bel
    clear hK hz
    refine wpIn_wide.2 ?_
    go_wp2
    refine ⟨by simp, .inl ⟨_, _, rfl, run_takeDeferred HDK.out, ?_⟩⟩
    refine ⟨.int .i64 (offL ls k : Int), by simp [results, Tryz.f43, go_sem], ?_⟩
    exact ⟨rfl, HBL2.out.trans (belowK_b (w := w) (Nat.le_refl _) _ D0 _ (.deferred none) (by have := HZ3.out.bel.size; omega) HDK.out rfl rfl)⟩
  case done =>
    rintro Dk ys V hD hS ⟨hyk, hz⟩ hK2
    obtain rfl : ys = wls nm ls ls.length := hS
    rw [wls_len] at hyk hz
    have e1 : offL ls ls.length = offL ls k := by unfold offL; rw [List.take_of_length_le (Nat.le_refl _), List.take_of_length_le hyk]
    rw [e1] at hz
    have d9 : V.cell? ⟨b9, 0, none⟩ = some (.int .i64 (offL ls k : Int)) := by rw [hz.c9.cell]; rfl
    have HDK := hide hK2
    have HBL2 := hide hz.bel
    clear hK2 hz e1
    go_wp2
    refine ⟨by simp, .inl ⟨_, _, rfl, run_takeDeferred HDK.out, ?_⟩⟩
    refine ⟨.int .i64 (offL ls k : Int), by simp [results, Tryz.f43, go_sem], ?_⟩
    exact ⟨rfl, HBL2.out.trans (belowK_b (w := w) (Nat.le_refl _) _ Dk _ (.deferred none) (by have := HZ3.out.bel.size; omega) HDK.out rfl rfl)⟩
  case body =>
    rintro l pre ⟨xi, xp⟩ gx V0 V hgx hbx _ hck hsz ⟨hpk, hz⟩ ⟨h1, h2, h3⟩
    have hsem := Oper.semAt_some
    obtain ⟨j, HJ⟩ : ∃ j, Hid (pre.length = j) := ⟨_, hide rfl⟩
    rw [HJ.out] at h1 h3 hz hpk
    obtain ⟨e1, e2⟩ := Prod.mk.inj h3
    subst e1
    have hoff := HOS.out xi h1
    have hob := HBL.out (xi + 1)
    have HP1 : Hid ((pre ++ [(xi, xp)]).length = xi + 1) := hide (by rw [List.length_append, HJ.out]; rfl)
    have hbx2 : Blk V gx 102 (plV xp) := hbx
    rw [e2] at hbx2
    have HBX := hide hbx2
    have hxi : xi ≤ 256 := by omega
    obtain ⟨vv, HVV⟩ : ∃ vv, Hid ((ls.getD xi []).length = vv) := ⟨_, hide rfl⟩
    obtain ⟨oj, HOJ⟩ : ∃ oj, Hid (offL ls xi = oj) := ⟨_, hide rfl⟩
    have HOFF := hide hoff
    rw [HVV.out, HOJ.out] at hoff HOFF
    have HPK : Hid (plK nm ls xi = (nm, oj + 2, vv)) := hide (by unfold plK; rw [HVV.out, HOJ.out])
    rw [HPK.out] at HBX
    rw [HOJ.out] at hz
    have c7 : V.cell? ⟨b7, 0, none⟩ = some (.int .i64 (k : Int)) := by rw [hz.c7.cell]; rfl
    have HZV := hide hz
    clear hz hck hsz h2 h3 e2 hbx hbx2 hgx HPK
    by_cases hjk : xi = k
    · subst hjk
      gi_wp2
      refine ⟨KeepsFrom.refl _ _, rfl, ?_⟩
      rw [HOJ.out]
      exact HZV.out
    · have hjki : ¬ (xi : Int) = (k : Int) := by omega
      gi_wp2_with (refine istep_loadA (.round l) wPl rfl rfl HBX.out rfl ?_)
      refine ⟨trivial, (calls_round (WideF.round l) (end_any (nm, oj + 2, vv) _ (by simp only; omega))).mono ?_⟩
      rintro e V5 ⟨rfl, hb5⟩
      have HZ5 := hide (HZV.out.on hb5)
      have c9 : V5.cell? ⟨b9, 0, none⟩ = some (.int .i64 (oj : Int)) := by rw [HZ5.out.c9.cell]; rfl
      have f9 := HZ5.out.c9.free 0
      have HB5 := hide hb5
      clear hb5 c7
      gi_wp2
      have hbut := But.setCell V5 b9 0 (.int .i64 ((oj + 2 + vv : Nat) : Int))
      refine ⟨((keepsO_below HB5.out).trans (keepsO_but hbut HZ5.out.c9)).from _, (KB.below HB5.out).trans (KB.but hbut hlt9 (fun q hq => by have := HFL.out q hq; omega)), ?_⟩
      show (pre ++ [(xi, xp)]).length ≤ k ∧ ZS w _ b7 b9 k (offL ls (pre ++ [(xi, xp)]).length)
      rw [HP1.out, HOFF.out]
      exact ⟨by omega, HZ5.out.c7.but hbut HZ5.out.ne, HZ5.out.c9.set 0 _, HZ5.out.ne, HZ5.out.n9, HZ5.out.bel.trans (hbut.below HZ5.out.n9)⟩
/-- What ready answers. -/
def reEb (rs : List Rw) (H : Nat) (n : ByteArray) : Int := if wlE (2 ^ H) (fl (play rs) n) < (fl (play rs) n).length then 130 else 0
def reSb (rs : List Rw) (H : Nat) (n : ByteArray) : List Rw := if wlE (2 ^ H) (fl (play rs) n) < (fl (play rs) n).length then rs else crS rs n
set_option maxHeartbeats 1000000 in
theorem readyB_any (H : Nat) (n : ByteArray) (hh : hB H) (hn : nmB n = true) (ht : PT w) (hwt : wt rs + 1 ≤ 1099511000000) :
    Calls Tryz.prog 33 #[.pointer (some ⟨d, 0, none⟩), .int .i64 (H : Int), .string n] w fun r w' => r = .returned (.int .i64 (reEb rs H n)) ∧ OpR w w' d s D (reSb rs H n) := by
  have HH := hide hd
  have HSZ := hide (size_any d s rs D w hd n)
  cases hf : play rs n with
  | none =>
    have hfe : fE rs n = 121 := by simp [fE, hn, hf]
    have hcr : crE rs n = 0 := by simp [crE, hn, hf]
    have hfl : fl (play rs) n = [] := by simp [fl, hf]
    have e1 : reEb rs H n = 0 := by simp [reEb, hfl]
    have e2 : reSb rs H n = crS rs n := by simp [reSb, hfl]
    have hc := create_any d s rs D w hd n hwt
    rw [hcr] at hc
    have HC := hide hc
    rw [e1, e2]
    rw [hfe] at HSZ
    clear hd hc hfe hcr hfl e1 e2 hf hwt hn ht hh
    go_enter Tryz.func33, Tryz.ntmps33
    go_wp2_with (go_at_call 65; refine HSZ.out.mono ?_; rintro r w' ⟨rfl, rfl⟩; simp only [show ¬ ((121 : Int) = 0) by decide, if_false])
    refine HC.out.mono ?_
    rintro r w1 ⟨rfl, ho⟩
    go_wp2
    go_ret
    exact ⟨rfl, ho⟩
  | some xs =>
    have hfe : fE rs n = 0 := by simp [fE, hn, hf]
    have hfl : fl (play rs) n = xs := by simp [fl, hf]
    rw [hfe, hfl] at HSZ
    have hxl : xs.length ≤ 1099511000000 := by
      have := play_wt rs n
      rw [hfl] at this
      omega
    have hso := sizeOf_any d s rs D w hd H n (2 ^ H) hh (by have := hh.pow; omega) ht (by omega)
    rw [offL_all _ _ (wl_le _ _), hfl] at hso
    obtain ⟨P, HP⟩ : ∃ P, Hid (2 ^ H = P) := ⟨_, hide rfl⟩
    have HWP := hide (wrap_powB hh HP.out)
    have hP := hh.pow
    have hH8 := hh.2
    have hHi : (H : Int) ≤ 8 := by omega
    have hcs := crS_some hn hf
    unfold reEb reSb
    rw [hfl, hcs, HP.out]
    rw [HP.out] at hso hP
    obtain ⟨hP1, hP2⟩ := hP
    have hle : wlE P xs ≤ xs.length := by
      have := wlE_le P xs (by rw [← hfl]; exact hd.byB n)
      exact this
    obtain ⟨E, HE⟩ : ∃ E, Hid (wlE P xs = E) := ⟨_, hide rfl⟩
    rw [HE.out] at hso hle ⊢
    generalize xs.length = L at *
    have HSO := hide hso
    clear hd hfe hfl hf hwt hn hcs hso hh ht HE
    by_cases h0 : E < L
    · have h0' : (E : Int) < (L : Int) := by omega
      rw [if_pos h0, if_pos h0]
      go_enter Tryz.func33, Tryz.ntmps33
      go_wp2_with (go_at_call 65; refine HSZ.out.mono ?_; rintro r w' ⟨rfl, rfl⟩; simp only [if_true])
      rw [HWP.out]
      refine HSO.out.mono ?_
      rintro r w1 ⟨rfl, hb1⟩
      go_wp2
      go_ret
      exact ⟨rfl, OpR.below HH.out hb1⟩
    · have h0' : ¬ (E : Int) < (L : Int) := by omega
      rw [if_neg h0, if_neg h0]
      go_enter Tryz.func33, Tryz.ntmps33
      go_wp2_with (go_at_call 65; refine HSZ.out.mono ?_; rintro r w' ⟨rfl, rfl⟩; simp only [if_true])
      rw [HWP.out]
      refine HSO.out.mono ?_
      rintro r w1 ⟨rfl, hb1⟩
      go_wp2
      go_ret
      exact ⟨rfl, OpR.below HH.out hb1⟩
end

end Go.Proofs.YtpocadbhajacaaaGreatDoor

/-
  A range over a function that itself ranges over one while it hands out: what is kept of the books; many marks at a function's end.
-/
namespace Go.Proofs.YtpocadbhajacaaaGreatDoor
open Go.RowKit Go.Shelf
set_option linter.unusedVariables false

/-- All that is no cell is left, but for one book. -/
structure NotesFrom (B q : Nat) (A C : World) : Prop where
  size : A.heap.size ≤ C.heap.size
  same : ∀ (k : Nat) (o : Obj), B ≤ k → k ≠ q → A.heap[k]? = some o → o.isCells = false → C.heap[k]? = some o
theorem NotesFrom.keeps {B B' q : Nat} {A C : World} (h : NotesFrom B q A C) (hq : q < B') (hB : B ≤ B') : KeepsFrom B' A C := ⟨h.size, fun k o h1 h2 h3 => h.same k o (by omega) (by omega) h2 h3⟩
theorem NotesFrom.marks {B q : Nat} {A C : World} (h : NotesFrom B q A C) {r : Loop} (hr : A.heap[q]? = some (.loop r)) : MarksFrom B A C := fun k hB hk => h.same k _ hB (fun e => by
  subst e
  rw [hr] at hk
  cases hk) hk rfl
theorem NotesFrom.pre {B q : Nat} {A V C : World} (hb : Below A.heap.size A V) (h : NotesFrom B q V C) : NotesFrom B q A C := ⟨Nat.le_trans hb.size h.size, fun k o h1 h2 h3 h4 => h.same k o h1 h2 ((hb.block k (Array.getElem?_eq_some_iff.1 h3).1).trans h3) h4⟩
theorem notes_round {B q : Nat} {W W3 : World} {o o' : Obj} (hk : KeepsFrom B (W.putObj q o) W3) : NotesFrom B q W (W3.putObj q o') :=
  ⟨Nat.le_trans (grownBy_putObj' W q o).size (Nat.le_trans hk.size (grownBy_putObj' W3 q o').size), fun k p h1 h2 h3 h4 => by
    rw [World.putObj_heap_other h2]
    exact hk.same k p h1 ((World.putObj_heap_other h2).trans h3) h4⟩
section
variable {F : Fence} {n : Nat} {P : Program}
/-- As SeqL; of a round it knows that all books but the loop's own are left. -/
def SeqM {α : Type} (F : Fence) (n : Nat) (P : Program) (g : Nat) (lb : Array Value) (encs : α → Array Value) (R : List α → α → World → World → Prop) (Kp : α → World → World → Prop) (S Sp : List α → Prop) (w : World) : Prop :=
  ∀ (l : Nat) (J Jx : List α → World → Prop) (W : World), Below w.heap.size w W → l < W.heap.size → OwnFrom W.heap.size J → OwnFrom W.heap.size Jx →
    (∀ pre x W0 W1, J pre W0 → Below W0.heap.size W0 W1 → J pre W1 → R pre x W0 W1 → YieldAt F (n - 1) P l (encs x) W1 fun e W' => (e = .returned (.bool true) ∧ J (pre ++ [x]) W' ∧ Kp x W1 W' ∧ NotesFrom w.heap.size l W1 W') ∨ (e = .returned (.bool false) ∧ Jx (pre ++ [x]) W' ∧ NotesFrom w.heap.size l W1 W')) →
    J [] W → CallsIn F n P g (#[.func (.yield l) #[] #[]] ++ lb) W fun e W' => (∃ v, e = .returned v) ∧ ((∃ xs, S xs ∧ J xs W') ∨ (∃ pre, Sp pre ∧ Jx pre W'))
theorem SeqQ.toM {α : Type} {g : Nat} {lb : Array Value} {encs : α → Array Value} {R : List α → α → World → World → Prop} {Kp : α → World → World → Prop} {S Sp : List α → Prop} {w : World} (h : SeqQ F n P g lb encs R Kp S Sp w) : SeqM F n P g lb encs R Kp S Sp w := by
  intro l J Jx W hW _ hJ hJx hY h0
  exact h l J Jx W hW (OwnFrom.abides hJ) (OwnFrom.abides hJx) (fun pre x W0 W1 a b c d => YieldAt.imp (hY pre x W0 W1 a b c d) (fun e w' hp => by
    rcases hp with ⟨h1, h2, h3, _⟩ | ⟨h1, h2, _⟩
    · exact .inl ⟨h1, h2, h3⟩
    · exact .inr ⟨h1, h2⟩)) h0
theorem rangeM {α : Type} {g : Operand} {ps : Array Tmp} {assign body : Code} {Q : Exit → Act → World → Prop} {a : Act} {w : World}
    (hro : F.round = none) (h1 : 1 ≤ n) {gf : Nat} {lb : Array Value} (hg : a.eval g = .func (.func gf) #[] lb) (hFg : F.fn gf) (eg : ∀ args w, (callFunc gf args).run P w = .ok (.enter gf args) w)
    {encs : α → Array Value} {R : List α → α → World → World → Prop} {Kp : α → World → World → Prop} {S Sp : List α → Prop} (hseq : SeqM F (n - 1) P gf lb encs R Kp S Sp w)
    (hKt : ∀ {x : α} {A B C : World}, Kp x A B → Kp x B C → Kp x A C) (hKb : ∀ (x : α) (W : World) (l : Nat) (o o' : Obj), w.heap.size ≤ l → W.heap[l]? = some o → o.isCells = false → Kp x W (W.putObj l o')) (hKw : ∀ (x : α) (A C : World), Below A.heap.size A C → Kp x A C) (hps : ∀ x, (encs x).size = ps.size)
    (hR : ∀ pre x W0, OwnFrom w.heap.size (fun (_ : Unit) W => R pre x W0 W))
    (I : List α → World → Prop) (Ix : Code → List α → World → Prop) (hI : OwnFrom w.heap.size I) (hIx : ∀ c, OwnFrom w.heap.size (Ix c)) (h0 : I [] w) (a₁ : α → Nat → Act) (Ab : α → Nat → World → Prop) (hAb : ∀ x g (V : World) (l : Nat) (r : Loop) (o' : Obj), V.heap[l]? = some (.loop r) → Ab x g V → Ab x g (V.putObj l o'))
    (hassign : ∀ (l : Nat) (x : α) (W : World) (K : Act → World → Prop), (∃ pre W0, R pre x W0 W) → (∀ (g : Nat) (V : World), Below W.heap.size W V → W.heap.size ≤ g → Ab x g V → K (a₁ x g) V) →
      assign.wpIn (F.inRound l) (n - 1 - 1) P (Exit.then K (fun _ _ _ => False)) { tmps := (ps.zip (encs x)).foldl (fun t (p, v) => t.setIfInBounds p v) a.tmps, defers := [] } W)
    (hbody : ∀ (l : Nat) (pre : List α) (x : α) (g : Nat) (W0 W : World), W0.heap.size ≤ g → Ab x g W → I pre W0 → (∀ (k : Nat) (o : Obj), W0.heap[k]? = some o → o.isCells = true → W.heap[k]? = some o) → W0.heap.size ≤ W.heap.size → I pre W → R pre x W0 W → body.wpIn (F.inRound l) (n - 1 - 1) P (ownPostG w.heap.size (Kp x) I Ix (pre ++ [x]) W) (a₁ x g) W)
    (hdone : ∀ (D : Nat) (xs : List α) (W : World), w.heap.size ≤ D → S xs → I xs W → W.heap[D]? = some (.deferred (some [])) → Q .normal { a with defers := { target := .collected D, args := #[] } :: a.defers } W)
    (hstop : ∀ (D : Nat) (c : Code) (pre : List α) (W : World), w.heap.size ≤ D → Sp pre → Ix c pre W → W.heap[D]? = some (.deferred (some [])) → c.wpIn F n P Q { a with defers := { target := .collected D, args := #[] } :: a.defers } W) :
    (Code.rangeFunc g ps assign body).wpIn F n P Q a w := by
  refine wpIn_rangeFunc fun fn hfn => ?_
  rw [hro]
  obtain ⟨W1, hW1⟩ : ∃ W1, (w.alloc (.deferred (some []))).alloc (.loop (lrec fn a.tmps ps assign body w.heap.size .ready none)) = W1 := ⟨_, rfl⟩
  have B1 : Bk (lrec fn a.tmps ps assign body w.heap.size .ready none) w.heap.size W1 := by rw [← hW1]; exact Bk.new w _
  have b1 : Below w.heap.size w W1 := by rw [← hW1]; exact ((Below.refl _ w).alloc (Nat.le_refl _) _).alloc (by simp) _
  have s1 : w.heap.size ≤ W1.heap.size := b1.size
  have far : ∀ {A : World} {row : Option Nat}, (∀ r, row = some r → W1.heap.size ≤ r ∧ ∃ o : Obj, A.heap[r]? = some o ∧ o.isCells = false) → ∀ r, row = some r → w.heap.size ≤ r ∧ ∃ o : Obj, A.heap[r]? = some o ∧ o.isCells = false :=
    fun hr r e => by obtain ⟨hb, o, ho, hw⟩ := hr r e; exact ⟨by omega, o, ho, hw⟩
  have z1 : W1.heap.size = w.heap.size + 2 := by rw [← hW1, World.size_alloc, World.size_alloc]
  refine ⟨w.heap.size + 1, [{ target := .collected w.heap.size, args := #[] }], W1, { target := .fn (.func gf) lb, args := #[.func (.yield (w.heap.size + 1)) #[] #[]] }, W1, gf,
    #[.func (.yield (w.heap.size + 1)) #[] #[]] ++ lb, W1, by rw [← hW1]; exact run_enterLoop_outer _ _ _ _ _, by simp only [resolve, hg]; simp [go_sem], fun f' hf' => by simp [Target.leads] at hf'; subst hf'; exact hFg, by simp [invoke, go_sem, eg], fun _ => h1, ?_⟩
  refine (hseq (w.heap.size + 1) (fun pre W => I pre W ∧ Bk (lrec fn a.tmps ps assign body w.heap.size .ready none) w.heap.size W) (fun pre W => ∃ c, Ix c pre W ∧ Bk (lrec fn a.tmps ps assign body w.heap.size .done (some c)) w.heap.size W) W1 b1 (by omega)
    (fun s A B row hs hg' hr => ⟨hI s A B row hs.1 hg' (far hr), hs.2.own hg' (fun q e => by have := (hr q e).1; omega)⟩)
    (fun s A B row hs hg' hr => by obtain ⟨c, hc, hb⟩ := hs; exact ⟨c, hIx c s A B row hc hg' (far hr), hb.own hg' (fun q e => by have := (hr q e).1; omega)⟩) ?_
    ⟨by rw [← hW1]; exact hI.alloc _ (hI.alloc _ h0), B1⟩).mono ?_
  · rintro pre x W0 W ⟨hi0, hB0⟩ hb0 ⟨hi, hB⟩ hr
    refine round_A hfn (hps x) hB (hassign _ x W _ ⟨pre, W0, hr⟩ (fun g V hbV hgW hab => ?_))
    have hgV : W.grownBy V none := ⟨hbV.os, hbV.tape, hbV.output, hbV.size, fun i hi _ => hbV.block i hi⟩
    have hBV := hB.own hgV (fun q e => by cases e)
    have hiV := hI _ W V none hi hgV (fun q e => by cases e)
    have hrV := hR pre x W0 () W V none hr hgV (fun q e => by cases e)
    have hsV : W.heap.size ≤ V.heap.size := hbV.size
    refine ⟨hBV, ?_⟩
    have hB2 := hBV.put (lrec fn a.tmps ps assign body w.heap.size .busy none)
    have hK2 : Kp x W (V.putObj (w.heap.size + 1) (.loop (lrec fn a.tmps ps assign body w.heap.size .busy none))) := hKt (hKw x W V hbV) (hKb x _ _ _ _ (by omega) hBV.loop rfl)
    refine wpIn_mono (hbody _ pre x g W0 _ (Nat.le_trans hb0.size hgW) (hAb x g V _ _ _ hBV.loop hab) hi0 (fun k o ho hc => ?_) (Nat.le_trans hb0.size (Nat.le_trans hsV (grownBy_putObj' V _ _).size)) (hI.putObj _ hiV (by omega) hBV.loop rfl) ((hR pre x W0).putObj (s := ()) _ hrV (by omega) hBV.loop rfl)) ?_
    · have hk0 : W.heap[k]? = some o := (hb0.block k (Array.getElem?_eq_some_iff.1 ho).1).trans ho
      have hk : V.heap[k]? = some o := (hbV.block k (Array.getElem?_eq_some_iff.1 hk0).1).trans hk0
      rw [World.putObj_heap_other (fun e => by
        subst e
        rw [hBV.loop] at hk
        injection hk with hk
        subst hk
        cases hc)]
      exact hk
    have hmk : ∀ {W3 : World} {r2 : Loop} {o' : Obj}, KeepsFrom w.heap.size (V.putObj (w.heap.size + 1) (.loop (lrec fn a.tmps ps assign body w.heap.size .busy none))) W3 → W3.heap[w.heap.size + 1]? = some (.loop r2) → NotesFrom w.heap.size (w.heap.size + 1) W (W3.putObj (w.heap.size + 1) o') := fun h1 _ => (notes_round h1).pre hbV
    intro e a3 W3 hp
    cases e with
    | normal =>
      have hB3 := hB2.keep hp.1
      exact ⟨hB3, .inl ⟨rfl, ⟨hI.putObj _ hp.2.2 (by omega) hB3.loop rfl, hB3.put _⟩, hKt hK2 (hKt hp.2.1 (hKb x _ _ _ _ (by omega) hB3.loop rfl)), hmk hp.1 hB3.loop⟩⟩
    | ret =>
      have hB3 := hB2.keep hp.1
      exact ⟨hB3, .inr ⟨rfl, ⟨.ret, (hIx _).putObj _ hp.2 (by omega) hB3.loop rfl, hB3.put _⟩, hmk hp.1 hB3.loop⟩⟩
    | exit id =>
      have hB3 := hB2.keep hp.1
      exact ⟨hB3, .inr ⟨rfl, ⟨.exit id, (hIx _).putObj _ hp.2 (by omega) hB3.loop rfl, hB3.put _⟩, hmk hp.1 hB3.loop⟩⟩
    | goto u =>
      have hB3 := hB2.keep hp.1
      exact ⟨hB3, .inr ⟨rfl, ⟨.goto u, (hIx _).putObj _ hp.2 (by omega) hB3.loop rfl, hB3.put _⟩, hmk hp.1 hB3.loop⟩⟩
    | panic ch => exact hp.elim
    | outgrown => exact hp.elim
  · rintro e W2 ⟨⟨v, rfl⟩, (⟨xs, hS, hi, hB⟩ | ⟨pre, hSp, c, hi, hB⟩)⟩
    · exact ⟨none, _, run_endLoop (P := P) hB.loop (by simp [lrec]), hdone _ xs _ (Nat.le_refl _) hS (hI.putObj _ hi (by omega) hB.loop rfl) ((World.putObj_heap_other (by omega)).trans hB.mark)⟩
    · exact ⟨some c, _, run_endLoop (P := P) hB.loop (by simp [lrec]), hstop _ c pre _ (Nat.le_refl _) hSp ((hIx c).putObj _ hi (by omega) hB.loop rfl) ((World.putObj_heap_other (by omega)).trans hB.mark)⟩

/-- A mark among what is deferred. -/
def dmk (D : Nat) : Deferred := { target := .collected D, args := #[] }
/-- What marks stand. -/
def MK (Ds : List Nat) (V : World) : Prop := ∀ D, D ∈ Ds → V.heap[D]? = some (.deferred (some []))
/-- A function leaves with many marks. -/
theorem leaves_marks {fn : Func} {tmps : Array Value} {R : Ending → World → Prop} {B : Nat} {J : World → Prop} (hJ : ∀ V D, J V → B ≤ D → V.heap[D]? = some (.deferred (some [])) → J (V.putObj D (.deferred none))) (fin : ∀ V, J V → LeavesIn F n P fn tmps R [] .returning V) :
    ∀ (Ds : List Nat) (V : World), Ds.Nodup → (∀ D ∈ Ds, B ≤ D) → MK Ds V → J V → LeavesInM F n P fn tmps R (Ds.map dmk) .returning V
  | [], V, _, _, _, h => fin V h
  | D :: Ds, V, hn, hB, hm, h => by
    obtain ⟨h1, h2⟩ := List.nodup_cons.1 hn
    have hD := hm D (by simp)
    exact ⟨by simp, .inl ⟨D, _, rfl, run_takeDeferred hD, leaves_marks hJ fin Ds _ h2 (fun E hE => hB E (by simp [hE])) (fun E hE => (World.putObj_heap_other (fun e => h1 (by rw [← e]; exact hE))).trans (hm E (by simp [hE]))) (hJ V D h (hB D (by simp)) hD)⟩⟩
theorem round_wide {n m : Nat} {l l' : Nat} {f : FuncId} {tmps : Array Value} {assign body : Code} {w : World} {R : Ending → World → Prop} (h : RoundIn Fence.wide n P l f tmps assign body w R) : RoundIn (Fence.wide.inRound l') m P l f tmps assign body w R := ⟨trivial, fun c cs _ => h.2 c cs (room_wide _)⟩
end

end Go.Proofs.YtpocadbhajacaaaGreatDoor

/-
  The way through a height's places: places and what it hands out.
-/
namespace Go.Proofs.YtpocadbhajacaaaGreatDoor
open Go.RowKit Go.Shelf
set_option linter.unusedVariables false
set_option linter.unusedSimpArgs false
set_option maxRecDepth 100000

theorem placesB_mk (d : Nat) (h : Int) (w : World) : Calls Tryz.prog 52 #[.pointer (some ⟨d, 0, none⟩), .int .i64 h] w fun r w' => ∃ gd gh, r = .returned (.func (.func 82) #[] #[.pointer (some ⟨gh, 0, none⟩), .pointer (some ⟨gd, 0, none⟩)]) ∧
    Blk w' gd 26 [.pointer (some ⟨d, 0, none⟩)] ∧ Blk w' gh 3 [.int .i64 h] ∧ w.heap.size ≤ gd ∧ w.heap.size ≤ gh ∧ Below w.heap.size w w' := by
  go_enter Tryz.func52, Tryz.ntmps52
  go_wp2
  go_ret
  have b1 : Below w.heap.size w (w.alloc (.cells #[.pointer (some ⟨d, 0, none⟩)] 26)) := (Below.refl _ _).alloc (Nat.le_refl _) _
  have B1 : Blk (w.alloc (.cells #[.pointer (some ⟨d, 0, none⟩)] 26)) w.heap.size 26 [.pointer (some ⟨d, 0, none⟩)] := Blk.made _ _ _
  generalize hW1 : w.alloc (.cells #[.pointer (some ⟨d, 0, none⟩)] 26) = W1 at *
  have s1 := b1.size
  have b2 : Below W1.heap.size W1 (W1.alloc (.cells #[.int .i64 h] 3)) := (Below.refl _ _).alloc (Nat.le_refl _) _
  have B2 : Blk (W1.alloc (.cells #[.int .i64 h] 3)) W1.heap.size 3 [.int .i64 h] := Blk.made _ _ _
  generalize hW2 : W1.alloc (.cells #[.int .i64 h] 3) = W2 at *
  have z1 : W1.heap.size = w.heap.size + 1 := by rw [← hW1]; exact World.size_alloc _ _
  exact ⟨w.heap.size, w.heap.size + 1, rfl, B1.on b2, by rw [← z1]; exact B2, Nat.le_refl _, by omega, on_below b1 b2⟩
/-- What stands when a height is walked over. -/
structure QAt (w : World) (d s : Nat) (rs : List Rw) (D : Dm) (gd gh H : Nat) (B : Nat) : Prop where
  dk : DkAt w d s rs D
  pt : PT w
  bd : Blk w gd 26 [.pointer (some ⟨d, 0, none⟩)]
  bh : Blk w gh 3 [.int .i64 (H : Int)]
  le : B ≤ gd ∧ B ≤ gh
section
variable {w w' : World} {d s : Nat} {rs : List Rw} {D : Dm} {gd gh H : Nat} {B : Nat}
theorem QAt.below (h : QAt w d s rs D gd gh H B) (hb : Below w.heap.size w w') : QAt w' d s rs D gd gh H B := ⟨h.dk.below hb, h.pt.below hb, h.bd.on hb, h.bh.on hb, h.le⟩
theorem QAt.kb (h : QAt w d s rs D gd gh H B) (hb : KB B (FD d D) w w') : QAt w' d s rs D gd gh H B :=
  ⟨dk_fd h.dk (fun k hk => hb.keep k hk (fd_lt h.dk h.pt hk)), pt_fd h.pt (fun k hk => hb.keep k hk (fd_lt h.dk h.pt hk)), hb.rest _ _ _ h.le.1 (by decide) h.bd, hb.rest _ _ _ h.le.2 (by decide) h.bh, h.le⟩
theorem QAt.grown {row : Option Nat} {E : Nat} (h : QAt w d s rs D gd gh H B) (hE : ∀ k, FD d D k → k < E) (hg : w.grownBy w' row) (hr : ∀ r, row = some r → E ≤ r ∧ ∃ o : Obj, w.heap[r]? = some o ∧ o.isCells = false) : QAt w' d s rs D gd gh H B := by
  have hk : ∀ k, FD d D k → w'.heap[k]? = w.heap[k]? := fun k hq => hg.block k (fd_lt h.dk h.pt hq) (fun e => by have := (hr k e.symm).1; have := hE k hq; omega)
  have hck := CK.of_grown hg (fun r e => (hr r e).2)
  exact ⟨dk_fd h.dk hk, pt_fd h.pt hk, h.bd.ck hck, h.bh.ck hck, h.le⟩
end
theorem mk_cons {Ds : List Nat} {D : Nat} {V : World} (h : V.heap[D]? = some (.deferred (some []))) (k : MK Ds V) : MK (D :: Ds) V := fun E hE => by
  rcases List.mem_cons.1 hE with rfl | hE
  · exact h
  · exact k E hE
theorem nd_cons {Ds : List Nat} {D E : Nat} (h : D ∉ Ds) (hE : E ≤ D) (k : Ds.Nodup ∧ ∀ D ∈ Ds, E ≤ D) : (D :: Ds).Nodup ∧ ∀ C ∈ D :: Ds, E ≤ C :=
  ⟨List.nodup_cons.2 ⟨h, k.1⟩, fun C hC => by
    rcases List.mem_cons.1 hC with rfl | hC
    · exact hE
    · exact k.2 C hC⟩
/-- What is handed out: a place. -/
def encPl (x : Plc) : Array Value := #[.agg (plV x).toArray]
def RPl (F : ByteArray → Option (List Int)) (H n : Nat) (pre : List Plc) (x : Plc) (W0 W : World) : Prop := pre.length < n ∧ pre = plsL F H pre.length ∧ x = plL F H pre.length
theorem rpl_own (F : ByteArray → Option (List Int)) (H n B0 : Nat) (pre : List Plc) (x : Plc) (W0 : World) : OwnFrom B0 (fun (_ : Unit) W => RPl F H n pre x W0 W) := fun _ W W' row h hg hr => h
set_option maxHeartbeats 4000000 in
theorem placesB_seq (d s : Nat) (rs : List Rw) (D : Dm) (gd gh H n B : Nat) (w : World) (h : QAt w d s rs D gd gh H B) (hh : hB H) (hn : CnL (play rs) H n) (hwt : wt rs ≤ 1099511000000) (hBw : B ≤ w.heap.size) (hFD : ∀ k, FD d D k → k < B) :
    SeqM Fence.wide 4 Tryz.prog 82 #[.pointer (some ⟨gh, 0, none⟩), .pointer (some ⟨gd, 0, none⟩)] encPl (RPl (play rs) H n) (fun _ => KB B (FD d D)) (fun ys => ys = plsL (play rs) H n) (fun ys => ∃ k, k ≤ n ∧ ys = plsL (play rs) H k) w := by
  intro l0 J Jx W hW hl0 hJ hJx hY h0
  have H0 := hide (h.below hW)
  have HJ0 := hide h0
  have HN := hide hn
  have HH := hide hh
  have hnb : n ≤ 1048576 := hn.le
  have HSQ0 : Hid (∀ (nm : ByteArray) (V : World) (ed eh en : Nat), WAt V d s rs D ed eh en H nm B → SeqM Fence.wide 3 Tryz.prog 77 #[.pointer (some ⟨ed, 0, none⟩), .pointer (some ⟨en, 0, none⟩), .pointer (some ⟨eh, 0, none⟩)] encW (RW nm (wl (2 ^ H) (fl (play rs) nm))) (fun _ => KB B (FD d D)) (fun ys => ys = wls nm (wl (2 ^ H) (fl (play rs) nm)) (wl (2 ^ H) (fl (play rs) nm)).length) (fun ys => ∃ k, k ≤ (wl (2 ^ H) (fl (play rs) nm)).length ∧ ys = wls nm (wl (2 ^ H) (fl (play rs) nm)) k) V) := hide (fun nm V ed eh en hA => (whole_seq d s rs D ed eh en H nm B V hA hh hwt).toM)
  obtain ⟨P, HP⟩ : ∃ P, Hid (2 ^ H = P) := ⟨_, hide rfl⟩
  have HWP := hide (wrap_powB hh HP.out)
  have hP := hh.pow
  rw [HP.out] at hP HSQ0
  obtain ⟨hPlo, hPhi⟩ := hP
  have hH8 := hh.2
  have hHi : (H : Int) ≤ 8 := by omega
  have HBw := hide hBw
  have HFD := hide hFD
  have hWw : w.heap.size ≤ W.heap.size := hW.size
  clear h hn hW h0 hh hwt hBw hFD
  refine callsIn_of_wp_marks Tryz.func82 rfl trivial ?_ rfl
  simp only [Tryz.ntmps82, List.size_toArray, List.length_cons, List.length_nil, Nat.reduceAdd, Nat.reduceSub, Array.replicate_succ, Array.replicate_zero, List.push_toArray, List.append_toArray, List.nil_append, List.cons_append]
  refine wpIn_wide.2 ?_
  go_wp2_with fail
  go_step3
  go_wp2_with fail
  go_step3
  go_wp2_with fail
  have CY : Blk (W.alloc (.cells #[.func (.yield l0) #[] #[]] 144)) W.heap.size 144 [.func (.yield l0) #[] #[]] := Blk.made W _ [.func (.yield l0) #[] #[]]
  have hb1 : Below W.heap.size W (W.alloc (.cells #[.func (.yield l0) #[] #[]] 144)) := (Below.refl _ _).alloc (Nat.le_refl _) _
  have H1 := hide (H0.out.below hb1)
  have HJ1 := hide (hJ _ W _ none HJ0.out ⟨hb1.os, hb1.tape, hb1.output, hb1.size, fun i hi _ => hb1.block i hi⟩ (fun r e => by cases e))
  have HC1 := hide CY
  have hs1 : W.heap.size ≤ (W.alloc (.cells #[.func (.yield l0) #[] #[]] 144)).heap.size := hb1.size
  clear hb1 CY H0 HJ0
  generalize W.alloc (.cells #[.func (.yield l0) #[] #[]] 144) = W1 at *
  obtain ⟨E, hE⟩ : ∃ E, W.heap.size = E := ⟨_, rfl⟩
  rw [hE] at hJ hJx hl0 hWw hs1 HC1 ⊢
  obtain ⟨yb, hyb⟩ : ∃ yb, E = yb := ⟨_, rfl⟩
  have hEy : E ≤ yb := by omega
  rw [hyb] at HC1
  simp only [hyb]
  try rw [hyb]
  have HYB : Hid (E ≤ yb) := hide hEy
  clear hE hyb hEy
  refine (wpIn_wide (n := 4)).1 ?_
  refine wpIn_loop (fun a wr => ∃ (i : Nat) (Ds : List Nat) (u5 u6 u7 u8 u9 u10 u11 u12 u13 u14 u15 u16 u17 u18 u19 u20 u21 u22 u23 u24 u25 u26 u27 u28 u29 u30 u31 u32 u33 u34 u35 : Value), a = ⟨[.func (.yield l0) #[] #[], .pointer (some ⟨gh, 0, none⟩), .pointer (some ⟨gd, 0, none⟩), .pointer (some ⟨yb, 0, none⟩), .int .i64 ((i * P : Nat) : Int), u5, u6, u7, u8, u9, u10, u11, u12, u13, u14, u15, u16, u17, u18, u19, u20, u21, u22, u23, u24, u25, u26, u27, u28, u29, u30, u31, u32, u33, u34, u35].toArray, Ds.map dmk⟩ ∧ i * P ≤ n ∧ Hid (J (plsL (play rs) H (i * P)) wr) ∧ Hid (QAt wr d s rs D gd gh H B) ∧ Hid (Blk wr yb 144 [.func (.yield l0) #[] #[]]) ∧ Hid (MK Ds wr) ∧ Hid (Ds.Nodup ∧ (∀ D ∈ Ds, E ≤ D)) ∧ E ≤ wr.heap.size) (fun a _ => n + 1 - (intOf (a.tmps.getD 4 undef)).toNat) ⟨0, [], _, _, _, _, _, _, _, _, _, _, _, _, _, _, _, _, _, _, _, _, _, _, _, _, _, _, _, _, _, _, _, by rw [Nat.zero_mul]; rfl, by omega, by rw [Nat.zero_mul]; exact HJ1, H1, HC1, hide (fun _ h => by cases h), hide ⟨List.nodup_nil, fun _ h => by cases h⟩, hs1⟩ ?_
  clear HJ1 H1 HC1 hs1
  rintro _ wr ⟨i, Ds, u5, u6, u7, u8, u9, u10, u11, u12, u13, u14, u15, u16, u17, u18, u19, u20, u21, u22, u23, u24, u25, u26, u27, u28, u29, u30, u31, u32, u33, u34, u35, rfl, hi, HJ, HQ, HY, HM, HDs, hse⟩
  have hc1 : wr.cell? ⟨gh, 0, none⟩ = some (.int .i64 (H : Int)) := by rw [HQ.out.bh.cell]; rfl
  have hib : i ≤ 1048576 := by
    have := Nat.mul_le_mul_left i (show 1 ≤ P by omega)
    omega
  by_cases hlt : i * P < 1048576
  · have hnm : bnP (H : Int) ((i * P : Nat) : Int) = lfN H i := by
      rw [bnP_nat HH.out hlt, HP.out, Nat.mul_div_cancel _ (by omega)]
    have hne : bnE (H : Int) ((i * P : Nat) : Int) = 0 := bnE_nat HH.out hlt
    have hnam := bname_any (H : Int) ((i * P : Nat) : Int) wr HQ.out.pt
    rw [hnm, hne] at hnam
    have HNM := hide hnam
    obtain ⟨ls, HLS⟩ : ∃ ls, Hid (wlF (play rs) H i = ls) := ⟨_, hide rfl⟩
    have hat := HN.out.at' HH.out (i := i) (by rw [HP.out]; exact hi) (by rw [HP.out]; exact hlt)
    rw [HP.out, HLS.out] at hat
    have HAT := hide hat
    clear hat
    have hlsP : ls.length ≤ P := by rw [← HLS.out, ← HP.out]; exact wlF_le _ _ _
    have HWL : Hid (wl P (fl (play rs) (lfN H i)) = ls) := hide (by rw [← HLS.out, ← HP.out]; rfl)
    have HPL : Hid (∀ k, k < P → plL (play rs) H (i * P + k) = plK (lfN H i) ls k) := hide (fun k hk => by
      rw [← HLS.out, ← HP.out]
      exact plL_at (by rw [HP.out]; exact hk))
    have HSQ1 := hide (HSQ0.out (lfN H i))
    rw [HWL.out] at HSQ1
    obtain ⟨bg, HBG⟩ : ∃ bg, Hid (i * P = bg) := ⟨_, hide rfl⟩
    rw [HBG.out] at HNM HPL HJ HAT hi hlt
    simp only [HBG.out]
    generalize lfN H i = nm at *
    clear hnm hne hnam HLS HWL
    gi_wp2_with fail
    refine ⟨trivial, (callsIn_wide.2 HNM.out).mono ?_⟩
    rintro e w1 ⟨rfl, hb1⟩
    have HQ1 := hide (HQ.out.below hb1)
    have HJ1 := hide (hJ _ wr w1 none HJ.out ⟨hb1.os, hb1.tape, hb1.output, hb1.size, fun i hi _ => hb1.block i hi⟩ (fun r e => by cases e))
    have HY1 := hide (HY.out.on hb1)
    have HM1 : Hid (MK Ds w1) := hide (fun D hD => (hb1.block D (Array.getElem?_eq_some_iff.1 (HM.out D hD)).1).trans (HM.out D hD))
    have hs1 : E ≤ w1.heap.size := Nat.le_trans hse hb1.size
    clear hb1 hc1 HNM HQ HJ HY HM
    have hc2 : w1.cell? ⟨gd, 0, none⟩ = some (.pointer (some ⟨d, 0, none⟩)) := by rw [HQ1.out.bd.cell]; rfl
    have hc3 : w1.cell? ⟨gh, 0, none⟩ = some (.int .i64 (H : Int)) := by rw [HQ1.out.bh.cell]; rfl
    gi_wp2_with fail
    refine ⟨trivial, (callsIn_wide.2 (whole_mk _ _ _ _)).mono ?_⟩
    rintro e w3 ⟨ed, eh, en, rfl, BD, BH, BN, hed, heh, hen, hb3⟩
    have HQ3 := hide (HQ1.out.below hb3)
    have HJ3 := hide (hJ _ w1 w3 none HJ1.out ⟨hb3.os, hb3.tape, hb3.output, hb3.size, fun i hi _ => hb3.block i hi⟩ (fun r e => by cases e))
    have HY3 := hide (HY1.out.on hb3)
    have HM3 : Hid (MK Ds w3) := hide (fun D hD => (hb3.block D (Array.getElem?_eq_some_iff.1 (HM1.out D hD)).1).trans (HM1.out D hD))
    have hs3 : E ≤ w3.heap.size := Nat.le_trans hs1 hb3.size
    have HSQ := hide (HSQ1.out w3 ed eh en ⟨HQ3.out.dk, HQ3.out.pt, BD, BH, BN, by have := HBw.out; omega, by have := HBw.out; omega, by have := HBw.out; omega⟩)
    have HF3 : Hid (∀ q, FD d D q → q < w3.heap.size) := hide (fun q hq => fd_lt HQ3.out.dk HQ3.out.pt hq)
    have HMG : Hid (∀ (A C : World) (row : Option Nat), MK Ds A → A.grownBy C row → (∀ r, row = some r → w3.heap.size ≤ r ∧ ∃ o : Obj, A.heap[r]? = some o ∧ o.isCells = false) → MK Ds C) := hide (fun A C row hm hg hr D hD => (hg.block D (Array.getElem?_eq_some_iff.1 (hm D hD)).1 (fun e => by
      have h1 := (hr D e.symm).1
      have h2 := (Array.getElem?_eq_some_iff.1 (HM3.out D hD)).1
      omega)).trans (hm D hD))
    clear hb3 hc2 hc3 HQ1 HJ1 HY1 HM1 BD BH BN hed heh hen hse
    gi_wp2_with fail
    refine rangeM rfl (by decide) (gf := 77) (lb := #[.pointer (some ⟨ed, 0, none⟩), .pointer (some ⟨en, 0, none⟩), .pointer (some ⟨eh, 0, none⟩)]) rfl trivial (enters_of Tryz.func77 (by kernel_rfl) rfl)
      HSQ.out KB.trans (fun x V l o o' hl h hc => KB.book (B' := w3.heap.size) HF3.out V l o o' hl h hc) (fun x A C h => KB.below h) (fun _ => rfl) (fun pre x V0 => rw_own _ _ _ pre x V0)
      (fun pre V => pre.length < P ∧ J (plsL (play rs) H (bg + pre.length)) V ∧ QAt V d s rs D gd gh H B ∧ Blk V yb 144 [.func (.yield l0) #[] #[]] ∧ MK Ds V)
      (fun c pre V => (c = .ret ∧ (∃ m, m ≤ n ∧ Jx (plsL (play rs) H m) V) ∧ MK Ds V) ∨ (c = .exit 1 ∧ bg + P ≤ n ∧ J (plsL (play rs) H (bg + P)) V ∧ QAt V d s rs D gd gh H B ∧ Blk V yb 144 [.func (.yield l0) #[] #[]] ∧ MK Ds V))
      (fun pre A C row h hg hr => by
        have hr2 : ∀ r, row = some r → E ≤ r ∧ ∃ o : Obj, A.heap[r]? = some o ∧ o.isCells = false := fun r e => ⟨Nat.le_trans hs3 (hr r e).1, (hr r e).2⟩
        exact ⟨h.1, hJ _ A C row h.2.1 hg hr2, h.2.2.1.grown HF3.out hg hr, h.2.2.2.1.ck (CK.of_grown hg (fun r e => (hr r e).2)), HMG.out A C row h.2.2.2.2 hg hr⟩)
      (fun c pre A C row h hg hr => by
        have hr2 : ∀ r, row = some r → E ≤ r ∧ ∃ o : Obj, A.heap[r]? = some o ∧ o.isCells = false := fun r e => ⟨Nat.le_trans hs3 (hr r e).1, (hr r e).2⟩
        rcases h with ⟨e1, ⟨m, h1, h2⟩, h3⟩ | ⟨e1, h1, h2, h3, h4, h5⟩
        · exact .inl ⟨e1, ⟨m, h1, hJx _ A C row h2 hg hr2⟩, HMG.out A C row h3 hg hr⟩
        · exact .inr ⟨e1, h1, hJ _ A C row h2 hg hr2, h3.grown HF3.out hg hr, h4.ck (CK.of_grown hg (fun r e => (hr r e).2)), HMG.out A C row h5 hg hr⟩)
      ⟨by show 0 < P; omega, HJ3.out, HQ3.out, HY3.out, HM3.out⟩ ?act (fun x g V => Blk V g 102 (plV x.2)) (fun x g V l r o' hl hx => blk_loop V l r o' hl hx) ?assign ?body ?done ?stop
    case assign =>
      rintro l x V K ⟨pre, V0, h1, h2, h3⟩ hK
      have hsem := Oper.semAt_some
      simp only [encW]
      clear h1 h2 h3
      gi_wp2_with (refine istep_alloc (.round l) zPl rfl ?_)
      intro V1 g9 hg9 hle9 hb9
      gi_wp2_with (refine istep_storeA (.round l) wPl rfl rfl rfl hg9 rfl (One.pl x.2) rfl ?_)
      intro V2 hg92 hbut9
      have hb92 : Below V.heap.size V V2 := hb9.trans (hbut9.below hle9)
      have hK2 := hK g9 V2 hb92 hle9 hg92
      clear hK
      gi_wp2
      exact hK2
    case stop =>
      rintro Dk c pre V hD hSp hx hK
      have hDn : Dk ∉ Ds := fun hd => by have := (Array.getElem?_eq_some_iff.1 (HM3.out Dk hd)).1; omega
      rcases hx with ⟨rfl, ⟨m, h1, h2⟩, h3⟩ | ⟨rfl, h1, h2, h3, h4, h5⟩
      · have HX := hide h2
        have HM4 : Hid (MK (Dk :: Ds) V) := hide (mk_cons hK h3)
        have HD4 : Hid ((Dk :: Ds).Nodup ∧ ∀ D ∈ Dk :: Ds, E ≤ D) := hide (nd_cons hDn (by omega) HDs.out)
        clear h2 h3 hK
        gi_wp2
        exact (leaves_marks (B := E) (J := fun V => Jx (plsL (play rs) H m) V) (fun V D h hB hD => hJx _ V _ (some D) h (grownBy_putObj' V D _) (fun r e => by cases e; exact ⟨hB, _, hD, rfl⟩)) (fun V h => ⟨_, results_none rfl _ _ _, ⟨_, rfl⟩, .inr ⟨_, ⟨m, h1, rfl⟩, h⟩⟩) (Dk :: Ds) V HD4.out.1 HD4.out.2 HM4.out HX.out)
      · have HJ4 := hide h2
        have HQ4 := hide h3
        have HY4 := hide h4
        have HM4 : Hid (MK (Dk :: Ds) V) := hide (mk_cons hK h5)
        have HD4 : Hid ((Dk :: Ds).Nodup ∧ ∀ D ∈ Dk :: Ds, E ≤ D) := hide (nd_cons hDn (by omega) HDs.out)
        have hc4 : V.cell? ⟨gh, 0, none⟩ = some (.int .i64 (H : Int)) := by rw [HQ4.out.bh.cell]; rfl
        clear h2 h3 h4 h5 hK
        have e5 : (i + 1) * P = bg + P := by rw [Nat.add_mul, Nat.one_mul, HBG.out]
        have E4 : Hid ((bg : Int) + (P : Int) = (((i + 1) * P : Nat) : Int)) := hide (by rw [e5]; rfl)
        have E5 := hide e5
        clear e5
        gi_wp2_with (rw [HWP.out])
        rw [E4.out]
        have e5 := E5.out
        refine ⟨⟨i + 1, Dk :: Ds, _, _, _, _, _, _, _, _, _, _, _, _, _, _, _, _, _, _, _, _, _, _, _, _, _, _, _, _, _, _, _, rfl, by omega, by rw [e5]; exact HJ4, HQ4, HY4, HM4, HD4, by have := (Array.getElem?_eq_some_iff.1 (HM4.out Dk (by simp))).1; omega⟩, ?_⟩
        show n + 1 - ((((i + 1) * P : Nat) : Int)).toNat < n + 1 - ((bg : Nat) : Int).toNat
        omega
    case done =>
      rintro Dk ys V hD hS ⟨hyk, hj, hq, hy, hm⟩ hK
      obtain rfl : ys = wls nm ls ls.length := hS
      rw [wls_len] at hyk hj
      have hDn : Dk ∉ Ds := fun hd => by have := (Array.getElem?_eq_some_iff.1 (HM3.out Dk hd)).1; omega
      rw [← HAT.out.2 hyk] at hj
      have HX := hide hj
      have HM4 : Hid (MK (Dk :: Ds) V) := hide (mk_cons hK hm)
      have HD4 : Hid ((Dk :: Ds).Nodup ∧ ∀ D ∈ Dk :: Ds, E ≤ D) := hide (nd_cons hDn (by omega) HDs.out)
      clear hj hq hy hm hK
      gi_wp2
      exact (leaves_marks (B := E) (J := fun V => J (plsL (play rs) H n) V) (fun V D h hB hD => hJ _ V _ (some D) h (grownBy_putObj' V D _) (fun r e => by cases e; exact ⟨hB, _, hD, rfl⟩)) (fun V h => ⟨_, results_none rfl _ _ _, ⟨_, rfl⟩, .inl ⟨_, rfl, h⟩⟩) (Dk :: Ds) V HD4.out.1 HD4.out.2 HM4.out HX.out)
    case body =>
      rintro l pre ⟨xi, xp⟩ gx V0 V hgx hbx _ hck hsz ⟨hpk, hj, hq, hy, hm⟩ ⟨h1, h2, h3⟩
      have hsem := Oper.semAt_some
      obtain ⟨j, HJJ⟩ : ∃ j, Hid (pre.length = j) := ⟨_, hide rfl⟩
      rw [HJJ.out] at h1 h3 hpk hj
      obtain ⟨e1, e2⟩ := Prod.mk.inj h3
      subst e1
      have HP1 : Hid ((pre ++ [(xi, xp)]).length = xi + 1) := hide (by rw [List.length_append, HJJ.out]; rfl)
      have hbx2 : Blk V gx 102 (plV xp) := hbx
      have HBX := hide hbx2
      have hpl : plL (play rs) H (bg + xi) = xp := by rw [HPL.out xi hpk, e2]
      have hle := HAT.out.1
      have HYY := hY (plsL (play rs) H (bg + xi)) xp V V hj (Below.refl _ _) hj ⟨by rw [plsL_len]; omega, by rw [plsL_len], by rw [plsL_len, hpl]⟩
      rw [← hpl, ← plsL_succ, hpl] at HYY
      obtain ⟨fn, tmps, assign, body, hyy, hR⟩ := HYY
      simp only [encPl] at hyy
      have c3 : V.cell? ⟨yb, 0, none⟩ = some (.func (.yield l0) #[] #[]) := by rw [hy.cell]; rfl
      have HQV := hide hq
      have HYV := hide hy
      have HMV := hide hm
      clear hj hq hy hm hck hsz h2 h3 e2 hbx hbx2 hgx
      gi_wp2_with (refine istep_loadA (.round l) wPl rfl rfl HBX.out rfl ?_)
      refine (round_wide hR).mono ?_
      rintro r W7 (⟨rfl, hJ7, hk7, hn7⟩ | ⟨rfl, hJx7, hn7⟩)
      · have HJ7 := hide hJ7
        have HQ7 := hide (HQV.out.kb hk7)
        have HY7 := hide (hk7.rest _ _ _ (by have := HBw.out; have := HYB.out; omega) (by decide) HYV.out)
        have HM7 : Hid (MK Ds W7) := hide (fun D hD => hn7.same D _ (by have := HDs.out.2 D hD; omega) (by have := HDs.out.2 D hD; omega) (HMV.out D hD) rfl)
        have HK7 := hide hk7
        have HN7 := hide (hn7.keeps (B' := w3.heap.size) (by omega) (by omega))
        have c1 : W7.cell? ⟨gh, 0, none⟩ = some (.int .i64 (H : Int)) := by rw [HQ7.out.bh.cell]; rfl
        clear hJ7 hk7 hn7 hyy hR
        by_cases hjP : xi = P - 1
        · have hjPi : (xi : Int) = (P : Int) - 1 := by omega
          subst hjP
          gi_wp2_with (rw [HWP.out])
          refine ⟨HN7.out, .inr ⟨rfl, by omega, ?_, HQ7.out, HY7.out, HM7.out⟩⟩
          have := HJ7.out
          rw [show bg + (P - 1) + 1 = bg + P by omega] at this
          exact this
        · have hjPi : ¬ (xi : Int) = (P : Int) - 1 := by omega
          gi_wp2_with (rw [HWP.out])
          refine ⟨HN7.out, HK7.out, ?_⟩
          show (pre ++ [(xi, xp)]).length < P ∧ J (plsL (play rs) H (bg + (pre ++ [(xi, xp)]).length)) W7 ∧ _
          rw [HP1.out]
          exact ⟨by omega, HJ7.out, HQ7.out, HY7.out, HM7.out⟩
      · have HJx7 := hide hJx7
        have HM7 : Hid (MK Ds W7) := hide (fun D hD => hn7.same D _ (by have := HDs.out.2 D hD; omega) (by have := HDs.out.2 D hD; omega) (HMV.out D hD) rfl)
        have HN7 := hide (hn7.keeps (B' := w3.heap.size) (by omega) (by omega))
        clear hJx7 hn7 hyy hR
        gi_wp2
        exact ⟨HN7.out, .inl ⟨rfl, ⟨bg + xi + 1, by omega, HJx7.out⟩, HM7.out⟩⟩
  · have hne : bnE (H : Int) ((i * P : Nat) : Int) = 2 := by
      unfold bnE
      rw [if_neg (fun h => by have := (nmO'_is.1 h); omega)]
    have hnam := bname_any (H : Int) ((i * P : Nat) : Int) wr HQ.out.pt
    rw [hne] at hnam
    have HNM := hide hnam
    have hin : i * P = n := by omega
    have HJn := HJ
    rw [hin] at HJn
    generalize bnP (H : Int) ((i * P : Nat) : Int) = nm at *
    clear hnam hne hin hi hlt
    gi_wp2_with fail
    refine ⟨trivial, (callsIn_wide.2 HNM.out).mono ?_⟩
    rintro e w1 ⟨rfl, hb1⟩
    have HX := hide (hJ _ wr w1 none HJn.out ⟨hb1.os, hb1.tape, hb1.output, hb1.size, fun i hi _ => hb1.block i hi⟩ (fun r e => by cases e))
    have HM1 : Hid (MK Ds w1) := hide (fun D hD => (hb1.block D (Array.getElem?_eq_some_iff.1 (HM.out D hD)).1).trans (HM.out D hD))
    clear hb1
    gi_wp2
    exact (leaves_marks (B := E) (J := fun V => J (plsL (play rs) H n) V) (fun V D h hB hD => hJ _ V _ (some D) h (grownBy_putObj' V D _) (fun r e => by cases e; exact ⟨hB, _, hD, rfl⟩)) (fun V h => ⟨_, results_none rfl _ _ _, ⟨_, rfl⟩, .inl ⟨_, rfl, h⟩⟩) Ds w1 HDs.out.1 HDs.out.2 HM1.out HX.out)

end Go.Proofs.YtpocadbhajacaaaGreatDoor

/-
  How many leaves a height has: Count.
-/
namespace Go.Proofs.YtpocadbhajacaaaGreatDoor
open Go.RowKit Go.Shelf
set_option linter.unusedVariables false
set_option linter.unusedSimpArgs false
set_option maxRecDepth 100000

/-- What stands while leaves are counted. -/
structure ZN (w W : World) (b9 k : Nat) : Prop where
  c9 : Blk W b9 3 [.int .i64 (k : Int)]
  n9 : w.heap.size ≤ b9
  bel : Below w.heap.size w W
theorem ZN.ck {w W W' : World} {b9 k : Nat} (h : ZN w W b9 k) (hk : CK W W') (hb : Below w.heap.size w W') : ZN w W' b9 k := ⟨h.c9.ck hk, h.n9, hb⟩
theorem ZN.on {w W W' : World} {b9 k : Nat} (h : ZN w W b9 k) (hb : Below W.heap.size W W') : ZN w W' b9 k := ⟨h.c9.on hb, h.n9, on_below h.bel hb⟩
section
variable (d s : Nat) (rs : List Rw) (D : Dm) (w : World) (hd : DkAt w d s rs D)
include hd
theorem madeB_any : Calls Tryz.prog 31 #[.pointer (some ⟨d, 0, none⟩)] w fun r w' => r = .returned (.bool true) ∧ w' = w := by
  have HH := hide hd
  have h1 : (0 : Int) < (s : Int) := by have := hd.s1; omega
  clear hd
  go_enter Tryz.func31, Tryz.ntmps31
  go_wp2_with (go_at_call 64; refine (sector_any d s rs D _ HH.out).mono ?_; rintro e w ⟨rfl, rfl⟩)
  go_ret
  exact ⟨by simp; omega, rfl⟩
theorem countB_bad (h : Int) (ht : PT w) (he : bnE h 0 ≠ 0) : Calls Tryz.prog 18 #[.pointer (some ⟨d, 0, none⟩), .int .i64 h] w fun r w' => r = .returned (.tuple #[.int .i64 0, .int .i64 2]) ∧ Below w.heap.size w w' := by
  have e2 : bnE h 0 = 2 := by rcases bnE_bin h 0 with k | k; exact absurd k he; exact k
  have HM := hide (madeB_any d s rs D w hd)
  have HN := hide (bname_any h 0 w ht)
  rw [e2] at HN
  generalize bnP h 0 = nm at *
  clear hd ht he e2
  refine (callsIn_wide (n := 5)).1 ?_
  refine callsIn_of_wp_marks Tryz.func18 rfl trivial ?_ rfl
  refine wpIn_wide.2 ?_
  simp only [Tryz.ntmps18, List.size_toArray, List.length_cons, List.length_nil, Nat.reduceAdd, Nat.reduceSub, Array.replicate_succ, Array.replicate_zero, List.push_toArray, List.append_toArray, List.nil_append, List.cons_append]
  go_wp2_with (go_at_call 31; refine HM.out.mono ?_; rintro r w' ⟨rfl, hw'⟩; subst w')
  refine HN.out.mono ?_
  rintro r w1 ⟨rfl, hb1⟩
  go_wp2
  exact ⟨.tuple #[.int .i64 0, .int .i64 2], by simp [results, Tryz.f18, go_sem], rfl, hb1⟩
set_option maxHeartbeats 2000000 in
theorem countB_ok (H n : Nat) (hh : hB H) (hn : CnL (play rs) H n) (ht : PT w) (hwt : wt rs ≤ 1099511000000) : Calls Tryz.prog 18 #[.pointer (some ⟨d, 0, none⟩), .int .i64 (H : Int)] w fun r w' => r = .returned (.tuple #[.int .i64 (n : Int), .int .i64 0]) ∧ Below w.heap.size w w' := by
  have e0 : bnE (H : Int) 0 = 0 := bnE_nat (I := 0) hh (by decide)
  have HMD := hide (madeB_any d s rs D w hd)
  have HNM := hide (bname_any (H : Int) 0 w ht)
  rw [e0] at HNM
  generalize bnP (H : Int) 0 = nm at *
  have hnb : n ≤ 1048576 := hn.le
  have HD := hide hd
  have HT := hide ht
  have HL := hide hh
  have HN := hide hn
  have HW := hide hwt
  have HFD : Hid (∀ k, FD d D k → k < w.heap.size) := hide (fun k hk => fd_lt hd ht hk)
  clear hd ht hh hn hwt e0
  refine (callsIn_wide (n := 5)).1 ?_
  refine callsIn_of_wp_marks Tryz.func18 rfl trivial ?_ rfl
  refine wpIn_wide.2 ?_
  simp only [Tryz.ntmps18, List.size_toArray, List.length_cons, List.length_nil, Nat.reduceAdd, Nat.reduceSub, Array.replicate_succ, Array.replicate_zero, List.push_toArray, List.append_toArray, List.nil_append, List.cons_append]
  go_wp2_with (go_at_call 31; refine HMD.out.mono ?_; rintro r w' ⟨rfl, hw'⟩; subst w')
  refine HNM.out.mono ?_
  rintro r w1 ⟨rfl, hb1⟩
  have HB1 := hide hb1
  clear hb1 HMD HNM
  go_wp2_with fail
  have C9 : Blk (w1.alloc (.cells #[.int .i64 0] 3)) w1.heap.size 3 [.int .i64 0] := Blk.made w1 3 [.int .i64 0]
  have hb9 : Below w1.heap.size w1 (w1.alloc (.cells #[.int .i64 0] 3)) := (Below.refl _ _).alloc (Nat.le_refl _) _
  have HZ2 : Hid (ZN w (w1.alloc (.cells #[.int .i64 0] 3)) w1.heap.size 0) := hide ⟨C9, HB1.out.size, on_below HB1.out hb9⟩
  clear hb9 C9
  revert HZ2
  generalize w1.alloc (.cells #[.int .i64 0] 3) = w2
  have hs1 : w.heap.size ≤ w1.heap.size := HB1.out.size
  generalize w1.heap.size = b9 at *
  intro HZ2
  clear HB1
  go_wp2_with fail
  refine (placesB_mk _ _ _).mono ?_
  rintro r w3 ⟨gd, gh, rfl, BD, BH, hgd, hgh, hb3⟩
  have HZ3 := hide (HZ2.out.on hb3)
  have hb92 : b9 < w2.heap.size := HZ2.out.c9.lt
  have HSQ := hide (placesB_seq d s rs D gd gh H n w2.heap.size w3 ⟨HD.out.below HZ3.out.bel, HT.out.below HZ3.out.bel, BD, BH, hgd, hgh⟩ HL.out HN.out HW.out hb3.size (fun k hk => by have := HFD.out k hk; omega))
  have hs3 : w.heap.size ≤ w3.heap.size := HZ3.out.bel.size
  clear hb3 BD BH HZ2 hgd hgh
  go_wp2_with fail
  refine (wpIn_wide (n := 5)).1 ?_
  refine rangeM rfl (by decide) (gf := 82) (lb := #[.pointer (some ⟨gh, 0, none⟩), .pointer (some ⟨gd, 0, none⟩)]) rfl trivial (enters_of Tryz.func82 (by kernel_rfl) rfl)
    HSQ.out KB.trans (fun x V l o o' hl h hc => KB.book (B' := w3.heap.size) (fun k hk => by have := HFD.out k hk; omega) V l o o' hl h hc) (fun x A C h => KB.below h) (fun _ => rfl) (fun pre x V0 => rpl_own _ _ _ _ pre x V0)
    (fun pre V => ZN w V b9 pre.length) (fun _ _ _ => False)
    (fun _ A C row h hg hr => h.ck (CK.of_grown hg (fun r e => (hr r e).2)) (h.bel.grown hg h.bel.size (fun r e => by have := (hr r e).1; omega)))
    (fun c _ A C row h hg hr => h) HZ3.out ?act (fun _ _ _ => True) (fun _ _ _ _ _ _ _ _ => trivial) ?assign ?body ?done ?stop
  case assign =>
    rintro l x V K _ hK
    have hsem := Oper.semAt_some
    obtain ⟨g, hg⟩ : ∃ g, g = V.heap.size := ⟨_, rfl⟩
    have hK2 := hK g V (Below.refl _ _) (by omega) trivial
    clear hK
    simp only [encPl]
    gi_wp2
    simp only [List.zip_toArray, List.zip_cons_cons, List.zip_nil_left, List.foldl_toArray, List.foldl_cons, List.foldl_nil, List.setIfInBounds_toArray, List.set_cons_succ, List.set_cons_zero]
    exact hK2
  case stop =>
    rintro D0 c pre V hD hSp h hK
    exact h.elim
  case body =>
    rintro l pre x gx V0 V _ _ _ hck hsz hz ⟨h1, h2, h3⟩
    have hsem := Oper.semAt_some
    have d9 : V.cell? ⟨b9, 0, none⟩ = some (.int .i64 (pre.length : Int)) := by rw [hz.c9.cell]; rfl
    have f9 := hz.c9.free 0
    have HZV := hide hz
    have hpn : pre.length < n := h1
    obtain ⟨i, HI⟩ : ∃ i, Hid (pre.length = i) := ⟨_, hide rfl⟩
    rw [HI.out] at d9 HZV hpn
    have HP1 : Hid ((pre ++ [x]).length = i + 1) := hide (by rw [List.length_append, HI.out]; rfl)
    clear hz hck hsz h1 h2 h3
    gi_wp2
    have hbut := But.setCell V b9 0 (.int .i64 ((i + 1 : Nat) : Int))
    refine ⟨(keepsO_but hbut HZV.out.c9).from _, KB.but hbut hb92 (fun k hk => by have := HFD.out k hk; omega), ?_⟩
    show ZN w _ b9 (pre ++ [x]).length
    rw [HP1.out]
    exact ⟨HZV.out.c9.set 0 _, HZV.out.n9, HZV.out.bel.trans (hbut.below HZV.out.n9)⟩
  case done =>
    rintro Dk ys V hD hS hz hK2
    obtain rfl : ys = plsL (play rs) H n := hS
    rw [plsL_len] at hz
    have d9 : V.cell? ⟨b9, 0, none⟩ = some (.int .i64 (n : Int)) := by rw [hz.c9.cell]; rfl
    have HDK := hide hK2
    have HBL := hide hz.bel
    clear hK2 hz
    go_wp2
    refine ⟨by simp, .inl ⟨_, _, rfl, run_takeDeferred HDK.out, ?_⟩⟩
    refine ⟨.tuple #[.int .i64 (n : Int), .int .i64 0], by simp [results, Tryz.f18, go_sem], ?_⟩
    exact ⟨rfl, HBL.out.trans (belowK_b (w := w) (Nat.le_refl _) _ Dk _ (.deferred none) (by omega) HDK.out rfl rfl)⟩
/-- Count, whatever the height. -/
theorem countB_any (h : Int) (n : Nat) (ht : PT w) (hn : bnE h 0 = 0 → CnL (play rs) h.toNat n) (hwt : wt rs ≤ 1099511000000) : Calls Tryz.prog 18 #[.pointer (some ⟨d, 0, none⟩), .int .i64 h] w fun r w' =>
    r = .returned (.tuple #[.int .i64 (if bnE h 0 = 0 then (n : Int) else 0), .int .i64 (bnE h 0)]) ∧ Below w.heap.size w w' := by
  by_cases he : bnE h 0 = 0
  · obtain ⟨H, I, rfl, e0, hh, _⟩ := nmO'_nats (bnE_zero he)
    rw [if_pos he, he]
    exact countB_ok d s rs D w hd H n hh (hn he) ht hwt
  · have e2 : bnE h 0 = 2 := by rcases bnE_bin h 0 with k | k; exact absurd k he; exact k
    rw [if_neg he, e2]
    exact countB_bad d s rs D w hd h ht he
end

end Go.Proofs.YtpocadbhajacaaaGreatDoor

/-
  Trim: the files behind are removed, the one that the leaf lies in is cut.
-/
namespace Go.Proofs.YtpocadbhajacaaaGreatDoor
open Go.RowKit Go.Shelf
set_option linter.unusedVariables false
set_option linter.unusedSimpArgs false
set_option maxRecDepth 100000

/-- The raw writes of removals. -/
def trRb (rs : List Rw) (ns : List ByteArray) : List Rw := rs ++ ns.map rRm
theorem trRb_nil (rs : List Rw) : trRb rs [] = rs := by simp [trRb]
theorem trRb_snoc (rs : List Rw) (ns : List ByteArray) (n : ByteArray) : trRb rs (ns ++ [n]) = trRb rs ns ++ [rRm n] := by simp [trRb]
theorem trRb_play (rs : List Rw) : ∀ (ns : List ByteArray) (n : ByteArray), (n ∈ ns → play (trRb rs ns) n = none) ∧ (n ∉ ns → play (trRb rs ns) n = play rs n) := by
  intro ns
  induction ns generalizing rs with
  | nil => intro n; exact ⟨fun h => (by cases h), fun _ => by rw [trRb_nil]⟩
  | cons a t ih =>
    intro n
    have e : trRb rs (a :: t) = trRb (rs ++ [rRm a]) t := by simp [trRb]
    obtain ⟨h1, h2⟩ := ih (rs ++ [rRm a]) n
    rw [e]
    rw [play_snoc, do_rm] at h2
    constructor
    · intro hm
      by_cases h3 : n ∈ t
      · exact h1 h3
      · rcases List.mem_cons.1 hm with rfl | hm
        · rw [h2 h3, upd_same]
        · exact absurd hm h3
    · intro hm
      rw [h2 (fun h => hm (List.mem_cons_of_mem _ h)), upd_ne _ _ (fun h => hm (by rw [h]; simp))]
theorem trRb_wt (rs : List Rw) (ns : List ByteArray) : wt (trRb rs ns) ≤ wt rs + ns.length := by
  have key : ∀ ns : List ByteArray, wt (ns.map rRm) ≤ ns.length := by
    intro ns
    induction ns with
    | nil => simp [wt]
    | cons a t ih =>
      rw [List.map_cons, ← List.singleton_append, wt_app, List.length_cons]
      have e : wt [rRm a] ≤ 1 := by simp [wt, rRm]
      omega
  unfold trRb
  rw [wt_app]
  have := key ns
  omega
/-- The files that are removed, in their order. -/
def trNb (H n : Nat) (ls : List (ByteArray × List Int)) : List ByteArray := (bhL H n (ls.map (·.1))).reverse
theorem trNb_mem {F : ByteArray → Option (List Int)} {ls : List (ByteArray × List Int)} (hl : FL F ls) {H n : Nat} {x : ByteArray} : x ∈ trNb H n ls ↔ F x ≠ none ∧ ∃ q, q * 2 ^ H < 1048576 ∧ n ≤ q * 2 ^ H ∧ x = lfN H q := by
  unfold trNb bhL
  rw [List.mem_reverse, List.mem_filter, BhB_iff]
  refine and_congr_left fun _ => ?_
  constructor
  · intro h
    obtain ⟨⟨m, xs⟩, h1, rfl⟩ := List.mem_map.1 h
    have h2 := (hl.mem m xs).2 h1
    exact fun e => by rw [h2] at e; cases e
  · intro h
    cases hx : F x with
    | none => exact absurd hx h
    | some xs => exact List.mem_map.2 ⟨(x, xs), (hl.mem x xs).1 hx, rfl⟩
theorem trNb_nodup {F : ByteArray → Option (List Int)} {ls : List (ByteArray × List Int)} (hl : FL F ls) (H n : Nat) : (trNb H n ls).Nodup := by
  unfold trNb bhL
  have h1 := hl.nodup
  unfold List.Nodup at *
  rw [List.pairwise_reverse]
  exact (h1.filter _).imp fun h e => h e.symm
theorem trNb_le (H n : Nat) (ls : List (ByteArray × List Int)) : (trNb H n ls).length ≤ ls.length := by
  unfold trNb
  rw [List.length_reverse]
  have := bhL_le H n (ls.map (·.1))
  rw [List.length_map] at this
  exact this
/-- What Trim leaves. -/
def trZb (H n : Nat) (rs : List Rw) (ls : List (ByteArray × List Int)) : Nat := offL (wl (2 ^ H) (fl (play (trRb rs (trNb H n ls))) (lfN H (n / 2 ^ H)))) (n % 2 ^ H)
def trSb (H n : Nat) (rs : List Rw) (ls : List (ByteArray × List Int)) : List Rw := cuS (trRb rs (trNb H n ls)) (lfN H (n / 2 ^ H)) ((trZb H n rs ls : Nat) : Int)
theorem trRb_fE {rs : List Rw} {ls : List (ByteArray × List Int)} (hN : Nmd (play rs)) (hl : FL (play rs) ls) {H n k : Nat} {x : ByteArray} (hq : (trNb H n ls)[k]? = some x) : fE (trRb rs ((trNb H n ls).take k)) x = 0 := by
  have hm := List.mem_of_getElem? hq
  have h1 := ((trNb_mem hl).1 hm).1
  have hnd := trNb_nodup hl H n
  have hnot : x ∉ (trNb H n ls).take k := fun hx => by
    obtain ⟨i, hi, he⟩ := List.mem_iff_getElem.1 hx
    rw [List.length_take] at hi
    rw [List.getElem_take] at he
    obtain ⟨hk, e2⟩ := List.getElem?_eq_some_iff.1 hq
    have h3 := (List.pairwise_iff_getElem.1 hnd) i k (by omega) hk (by omega)
    exact h3 (he.trans e2.symm)
  have hp := (trRb_play rs ((trNb H n ls).take k) x).2 hnot
  have hnm : nmB x = true := by
    cases hb : nmB x with
    | true => rfl
    | false => exact absurd (hN x hb) h1
  cases hc : play rs x with
  | none => exact absurd hc h1
  | some ys => rw [hc] at hp; simp [fE, hnm, hp]
set_option maxHeartbeats 2000000 in
theorem trimB_ok (d s : Nat) (rs : List Rw) (D : Dm) (ls : List (ByteArray × List Int)) (H c n : Nat) (w0 w : World) (he0 : EV w0) (hb0 : Below w0.heap.size w0 w) (hown : ∀ k, D.own d k → w0.heap.size ≤ k) (hd : DkAt w d s rs D) (hl : FL (play rs) ls) (hh : hB H) (hc : CnL (play rs) H c) (hn : n ≤ c) (hls : ls.length ≤ 1000000) (hwt : wt rs + 1000002 ≤ 1099511000000) :
    Calls Tryz.prog 12 #[.pointer (some ⟨d, 0, none⟩), .int .i64 (H : Int), .int .i64 (n : Int)] w fun r w' => r = .returned (.int .i64 0) ∧ OpR w w' d s D (trSb H n rs ls) := by
  have hc9 := hc.le
  have HCU : Hid (∀ W : World, DkAt W d s rs D → PT W → Calls Tryz.prog 18 #[.pointer (some ⟨d, 0, none⟩), .int .i64 (H : Int)] W fun r w' => r = .returned (.tuple #[.int .i64 (c : Int), .int .i64 0]) ∧ Below W.heap.size W w') := hide (fun W h1 h2 => countB_ok d s rs D W h1 H c hh hc h2 (by omega))
  have HBH : Hid (∀ W : World, DkAt W d s rs D → EV W → Calls Tryz.prog 39 #[.pointer (some ⟨d, 0, none⟩), .int .i64 (H : Int), .int .i64 (n : Int)] W fun e w' => ∃ v, e = .returned v ∧ OwnN w' W.heap.size v (trNb H n ls) ∧ Below W.heap.size W w') := hide (fun W h1 h2 => behindB_any d s rs D ls H n W h1 hl hh (by omega) h2 (by omega) hls)
  have HFE : Hid (∀ k x, (trNb H n ls)[k]? = some x → fE (trRb rs ((trNb H n ls).take k)) x = 0) := hide (fun k x h => trRb_fE (Nmd.play hd.valS) hl h)
  have HD := hide hd
  have HE := hide (he0.below hb0)
  have HPT : Hid (∀ (W : World) (rs' : List Rw), OpR w W d s D rs' → PT W) := hide (fun W rs' h => by
    obtain ⟨D', _, h2, _, _⟩ := h
    exact he0.pt.below (hb0.trans (h2.below (fun q hq hq2 => by have := hown q hq2; omega) hb0.size)))
  have hjs : (trNb H n ls).length ≤ 1000000 := Nat.le_trans (trNb_le H n ls) hls
  have HW := hide hwt
  have hnc : ¬ (c : Int) < (n : Int) := by omega
  have hn0 : ¬ (n : Int) < 0 := by omega
  have hH8 : (H : Int) ≤ 8 := by have := hh.2; omega
  obtain ⟨P, HP⟩ : ∃ P, Hid (2 ^ H = P) := ⟨_, hide rfl⟩
  have hP := hh.pow
  have HWP := hide (wrap_powB hh HP.out)
  rw [HP.out] at hP
  have hq9 : n / P ≤ n := Nat.div_le_self _ _
  have HNM : Hid (∀ (W : World), PT W → Calls Tryz.prog 41 #[.int .i64 (H : Int), .int .i64 ((n / P : Nat) : Int)] W fun r w' => r = .returned (.string (lfN H (n / P))) ∧ Below W.heap.size W w') := hide (fun W hp => nameOf_any H (n / P) W hh (by omega) hp)
  have hrN : trSb H n rs ls = cuS (trRb rs (trNb H n ls)) (lfN H (n / P)) ((offL (wl P (fl (play (trRb rs (trNb H n ls))) (lfN H (n / P)))) (n % P) : Nat) : Int) := by unfold trSb trZb; rw [HP.out]
  rw [hrN]
  have HSO : Hid (∀ (W : World) (D1 : Dm), DkAt W d s (trRb rs (trNb H n ls)) D1 → PT W → Calls Tryz.prog 43 #[.pointer (some ⟨d, 0, none⟩), .int .i64 (H : Int), .string (lfN H (n / P)), .int .i64 ((n % P : Nat) : Int)] W fun r w' => r = .returned (.int .i64 ((offL (wl P (fl (play (trRb rs (trNb H n ls))) (lfN H (n / P)))) (n % P) : Nat) : Int)) ∧ Below W.heap.size W w') := hide (fun W D1 hW hp => by
    have hm := Nat.mod_lt n (show 0 < P by omega)
    have h1 := trRb_wt rs (trNb H n ls)
    have := sizeOf_any d s (trRb rs (trNb H n ls)) D1 W hW H (lfN H (n / P)) (n % P) hh (by omega) hp (by omega)
    rw [HP.out] at this
    exact this)
  have HCT : Hid (∀ (W : World) (D1 : Dm) (Z : Nat), DkAt W d s (trRb rs (trNb H n ls)) D1 → Calls Tryz.prog 42 #[.pointer (some ⟨d, 0, none⟩), .string (lfN H (n / P)), .int .i64 (Z : Int)] W fun e w' => e = .returned (.int .i64 (cuE (trRb rs (trNb H n ls)) (lfN H (n / P)) (Z : Int))) ∧ OpR W w' d s D1 (cuS (trRb rs (trNb H n ls)) (lfN H (n / P)) (Z : Int))) := hide (fun W D1 Z hW => cut_any d s (trRb rs (trNb H n ls)) D1 W hW (lfN H (n / P)) (Z : Int) (by
    have h1 := trRb_wt rs (trNb H n ls)
    omega))
  have HRV : Hid (∀ (k : Nat) (x : ByteArray), (trNb H n ls)[k]? = some x → ∀ (W : World) (D1 : Dm), DkAt W d s (trRb rs ((trNb H n ls).take k)) D1 → Calls Tryz.prog 40 #[.pointer (some ⟨d, 0, none⟩), .string x] W fun e w' => e = .returned (.int .i64 0) ∧ OpR W w' d s D1 (trRb rs ((trNb H n ls).take (k + 1)))) := hide (fun k x hx W D1 hW => by
    have h1 := trRb_wt rs ((trNb H n ls).take k)
    rw [List.length_take] at h1
    have := remove_any d s (trRb rs ((trNb H n ls).take k)) D1 W hW x (by omega)
    have hf := HFE.out k x hx
    have e2 : rmS (trRb rs ((trNb H n ls).take k)) x = trRb rs ((trNb H n ls).take (k + 1)) := by
      unfold rmS
      rw [if_pos hf, ← trRb_snoc, List.take_add_one, hx]
      rfl
    rw [hf, e2] at this
    exact this)
  have hZb : offL (wl P (fl (play (trRb rs (trNb H n ls))) (lfN H (n / P)))) (n % P) ≤ (fl (play (trRb rs (trNb H n ls))) (lfN H (n / P))).length := by
    refine offL_le ?_ _
    have hp := trRb_play rs (trNb H n ls) (lfN H (n / P))
    by_cases hm : lfN H (n / P) ∈ trNb H n ls
    · rw [fl_none (hp.1 hm)]
      intro x hx
      cases hx
    · have e : fl (play (trRb rs (trNb H n ls))) (lfN H (n / P)) = fl (play rs) (lfN H (n / P)) := by unfold fl; rw [hp.2 hm]
      rw [e]
      exact hd.byB _
  obtain ⟨Z, HZ⟩ : ∃ Z, Hid (offL (wl P (fl (play (trRb rs (trNb H n ls))) (lfN H (n / P)))) (n % P) = Z) := ⟨_, hide rfl⟩
  rw [HZ.out] at HSO hZb ⊢
  have hcu : cuE (trRb rs (trNb H n ls)) (lfN H (n / P)) (Z : Int) = 0 ∨ cuE (trRb rs (trNb H n ls)) (lfN H (n / P)) (Z : Int) = 121 := by
    have hnm := lfN_nm (k := n / P) hh (by omega)
    unfold cuE
    by_cases hf : fE (trRb rs (trNb H n ls)) (lfN H (n / P)) = 0
    · rw [if_pos hf, if_neg (by omega)]; exact .inl rfl
    · rw [if_neg hf]
      right
      unfold fE at hf ⊢
      rw [if_pos hnm] at hf ⊢
      split
      · rename_i h; rw [if_pos h] at hf; exact absurd rfl hf
      · rfl
  have HCUE := hide hcu
  obtain ⟨ns, HNS⟩ : ∃ ns, Hid (trNb H n ls = ns) := ⟨_, hide rfl⟩
  rw [HNS.out] at HSO HCT HRV HCUE HBH hjs ⊢
  obtain ⟨q, HQ⟩ : ∃ q, Hid (n / P = q) := ⟨_, hide rfl⟩
  obtain ⟨r, HR⟩ : ∃ r, Hid (n % P = r) := ⟨_, hide rfl⟩
  rw [HQ.out] at HNM HSO HCT HCUE ⊢
  rw [HR.out] at HSO
  have hrem : (n : Int).tmod (P : Int) = (r : Int) := by rw [← HR.out]; exact (Int.ofNat_tmod n P).symm
  have hshr : (n : Int) / 2 ^ H = (q : Int) := by rw [← HQ.out, ← HP.out, shrN]
  obtain ⟨hP1, hP2⟩ := hP
  generalize lfN H q = nm at *
  clear hd he0 hb0 hown hwt hl hls hc hh hcu hZb HFE HZ HNS hrN hq9
  go_enter Tryz.func12, Tryz.ntmps12
  go_wp2_with fail
  refine (HCU.out _ HD.out HE.out.pt).mono ?_
  rintro r' w2 ⟨rfl, hb2⟩
  have HB2 := hide hb2
  clear hb2
  go_wp2_with fail
  refine (HBH.out _ (HD.out.below HB2.out) (HE.out.below HB2.out)).mono ?_
  rintro r' w3 ⟨v, rfl, hrow, hb3⟩
  have HB3 := hide (on_below HB2.out hb3)
  have HRW := hide hrow
  obtain ⟨a, cp, hv2⟩ := OwnN.slice hrow
  subst hv2
  clear hrow hb3
  generalize hm : ns.length = m at *
  have HM := hide hm
  have hm1 : m ≤ 1000000 := by first | exact hjs | omega
  clear hm
  go_wp2
  go_loopw [32] (fun p wr => ∃ i : Nat, i ≤ m ∧ p = .int .i64 (i : Int) ∧ Hid (OpR w3 wr d s D (trRb rs (ns.take i)))) (fun p _ => m - (intOf p).toNat)
  case atStart => exact ⟨0, Nat.zero_le _, rfl, hide (by rw [List.take_zero, trRb_nil]; exact OpR.refl (HD.out.below HB3.out))⟩
  case round =>
    obtain ⟨k, hk, rfl, HOP⟩ := hrel
    by_cases hlt : k < m
    · have hlti : (k : Int) < (m : Int) := by omega
      have hkj : k < ns.length := by rw [HM.out]; exact hlt
      obtain ⟨D1, o1, o2, o3, o4⟩ := HOP.out
      obtain ⟨g, cap, cs, e1, hg, hcs, hcl⟩ := row_at HRW.out (by rw [HM.out]; omega)
      injection e1 with e1 e2 e3
      clear e2
      subst e1 e3
      have hix := atN g m cp k (k : Int) rfl hlt
      obtain ⟨x, hq⟩ : ∃ x, ns[k]? = some x := ⟨_, List.getElem?_eq_getElem hkj⟩
      have hnown : ¬ D.own d g := fun h => by
        have h1 := HD.out.lt (.inl h)
        have h2 := row_ge HRW.out (k := g) rfl
        have h3 := HB2.out.size
        omega
      have hc : wr.cell? ⟨g, k, none⟩ = some (.string x) := by
        rw [(hg.same (o2.block g hg.lt hnown)).cell]
        have h1 : (cs.take (ns.length * 1))[k]? = some (.string x) := by
          rw [hcs]
          exact nC_at ns k x hq
        rw [List.getElem?_take, if_pos (by omega)] at h1
        exact h1
      have HRMV := hide (HRV.out k x hq wr D1 o1)
      have HO := hide (And.intro o2 (And.intro o3 o4))
      clear hcs hcl hq hg o1 o2 o3 o4 hnown
      go_wp2_with fail
      refine HRMV.out.mono ?_
      rintro r' w4 ⟨rfl, ho⟩
      have HO4 := hide (OpR.comp HO.out.1 HO.out.2.1 HO.out.2.2 ho)
      clear ho HRMV
      go_wp2
      go_roundw
      case rel => exact ⟨k + 1, by omega, by go_num, HO4⟩
      case measure => simp only [intOf]; omega
    · have hlti : ¬ (k : Int) < (m : Int) := by omega
      have hkm : k = m := by omega
      subst hkm
      have hfin := HOP.out
      rw [List.take_of_length_le (by rw [HM.out]; exact Nat.le_refl _)] at hfin
      have HFIN := hide (OpR.pre HB3.out hfin)
      clear hfin HOP HRW HRV
      go_wp2_with fail
      refine (HNM.out _ (HPT.out _ _ HFIN.out)).mono ?_
      rintro e w8 ⟨rfl, hb8⟩
      have HF8 := hide (OpR.post HFIN.out hb8)
      clear hb8 HFIN HNM
      have hH0 : (0 : Int) ≤ (H : Int) := by omega
      go_wp2_with (rw [HWP.out])
      obtain ⟨D8, d1, d2, d3, d4⟩ := HF8.out
      refine (HSO.out _ D8 d1 (HPT.out _ _ HF8.out)).mono ?_
      rintro e w9 ⟨rfl, hb9⟩
      have HD9 := hide (d1.below hb9)
      have HF9 : Hid (∀ w10 : World, OpR w9 w10 d s D8 (cuS (trRb rs ns) nm (Z : Int)) → OpR w w10 d s D (cuS (trRb rs ns) nm (Z : Int))) := hide (fun w10 h10 => OpR.comp d2 d3 d4 (OpR.pre hb9 h10))
      clear hb9 d1 d2 d3 d4 HF8
      go_wp2_with fail
      refine (HCT.out _ D8 Z HD9.out).mono ?_
      rintro e w10 ⟨rfl, ho10⟩
      have HO10 := hide (HF9.out _ ho10)
      clear ho10
      rcases HCUE.out with h0 | h0
      · rw [h0]
        go_wp2
        go_ret
        exact ⟨rfl, HO10.out⟩
      · rw [h0]
        go_wp2
        go_ret
        exact ⟨rfl, HO10.out⟩

end Go.Proofs.YtpocadbhajacaaaGreatDoor

/-
  Put.
-/
namespace Go.Proofs.YtpocadbhajacaaaGreatDoor
open Go.RowKit Go.Shelf
set_option linter.unusedVariables false
set_option linter.unusedSimpArgs false
set_option maxRecDepth 100000

/-- What Put answers on a height of n leaves. -/
def puEb (rs : List Rw) (h i : Int) (n : Nat) (x : List Int) : Int := if bnE h i = 0 then (if x.length ≤ 65535 then (if i = (n : Int) then reEb rs h.toNat (bnP h i) else 40) else 3) else 2
def puSb (s : Nat) (rs : List Rw) (h i : Int) (n : Nat) (x : List Int) : List Rw := if puEb rs h i n x = 0 then puW s rs (bnP h i) (lfB x) else rs
theorem be_two (n : Nat) (h : n ≤ 65535) : be (n : Int) 2 = [((n / 256 : Nat) : Int), ((n % 256 : Nat) : Int)] := by
  unfold be
  simp only [List.range_succ, List.range_zero, List.nil_append, List.cons_append, List.map_cons, List.map_nil]
  rw [show ((256 : Int) ^ (2 - 1 - 0)) = 256 from rfl, show ((256 : Int) ^ (2 - 1 - 1)) = 1 from rfl]
  have e1 : (n : Int) / 256 % 256 = ((n / 256 : Nat) : Int) := by omega
  have e2 : (n : Int) / 1 % 256 = ((n % 256 : Nat) : Int) := by omega
  rw [e1, e2]
theorem lfB_be (x : List Int) (h : x.length ≤ 65535) : be (x.length : Int) 2 ++ x = lfB x := by
  rw [be_two _ h]
  rfl
theorem lfB_isB {x : List Int} (h : x.length ≤ 65535) (hx : isB x) : isB (lfB x) := by
  intro y hy
  unfold lfB at hy
  rcases List.mem_cons.1 hy with rfl | hy
  · omega
  · rcases List.mem_cons.1 hy with rfl | hy
    · omega
    · exact hx y hy
set_option maxHeartbeats 400000 in
theorem putUint16_any (a : Option Addr) (len cap : Nat) (xs : List Int) (v : Int) (w : World) (hs : Sl w a len cap xs) (hv : 0 ≤ v) (hv2 : v < 65536) :
    Calls Tryz.prog 34 #[.slice a len cap, .int .u16 v] w fun e w' => ∃ g, e = .returned (.slice (some ⟨g, 0, none⟩) (len + 2) (len + 2)) ∧ w.heap.size ≤ g ∧ Blk w' g 5 (u8s (xs ++ be v 2)) ∧ Below w.heap.size w w' := by
  have HS := hide hs
  have hw : IntKind.u64.wrap v = v := by rw [IntKind.wrap_u64]; exact Int.emod_eq_of_lt hv (by omega)
  clear hs
  go_enter Tryz.func34, Tryz.ntmps34
  go_wp2_with (go_at_call 66; refine (putNumber_any _ _ _ xs v 2 _ HS.out (by omega) hv (by omega)).mono ?_; rintro e w1 ⟨g, rfl, hg, hrow, hb⟩)
  go_ret
  exact ⟨g, rfl, hg, hrow, hb⟩
theorem Sl.chsB {S : Nat → Prop} {w w' : World} {a : Option Addr} {len cap : Nat} {xs : List Int} (h : Sl w a len cap xs) (hc : Chs S w w') (hk : 0 < len → ∀ y, a = some y → ¬ S y.block) : Sl w' a len cap xs := by
  obtain ⟨h1, h2, h3, h4, h5, h6, h7⟩ := h
  refine ⟨h1, h2, h3, h4, h5, h6, fun h => ?_⟩
  obtain ⟨b, off, e, hce⟩ := h7 h
  refine ⟨b, off, e, fun i hi => ?_⟩
  rw [World.cell?_of_block (w := w) (hc.block b (World.block_lt_of_cell? w _ (hce i hi)) (hk h ⟨b, off, none⟩ e))]
  exact hce i hi
section
variable (d s : Nat) (rs : List Rw) (D : Dm) (w : World) (hd : DkAt w d s rs D)
include hd
set_option maxHeartbeats 2000000 in
theorem putB_any (h i : Int) (n : Nat) (a : Option Addr) (l c : Nat) (x : List Int) (hs : Sl w a l c x) (hap : 0 < l → ∀ y, a = some y → ¬ D.own d y.block) (ht : PT w) (hn : bnE h 0 = 0 → CnL (play rs) h.toNat n) (hwt : wt rs + 2 * x.length + 80 ≤ 1099511000000) :
    Calls Tryz.prog 10 #[.pointer (some ⟨d, 0, none⟩), .int .i64 h, .int .i64 i, .slice a l c] w fun r w' => r = .returned (.int .i64 (puEb rs h i n x)) ∧ OpR w w' d s D (puSb s rs h i n x) := by
  have HD := hide hd
  have HT := hide ht
  have HW := hide hwt
  have hxl := hs.hlen
  have hxr := hs.hreach
  have hxb := hs.hbyte
  have HS := hide hs
  have HAP := hide hap
  have HMD := hide (madeB_any d s rs D w hd)
  have HCU : Hid (∀ W : World, DkAt W d s rs D → PT W → Calls Tryz.prog 18 #[.pointer (some ⟨d, 0, none⟩), .int .i64 h] W fun r w' => r = .returned (.tuple #[.int .i64 (if bnE h 0 = 0 then (n : Int) else 0), .int .i64 (bnE h 0)]) ∧ Below W.heap.size W w') := hide (fun W h1 h2 => countB_any d s rs D W h1 h n h2 hn (by omega))
  have HNM : Hid (∀ W : World, PT W → Calls Tryz.prog 32 #[.int .i64 h, .int .i64 i] W fun r w' => r = .returned (.tuple #[.string (bnP h i), .int .i64 (bnE h i)]) ∧ Below W.heap.size W w') := hide (fun W h2 => bname_any h i W h2)
  by_cases he : bnE h i = 0
  · obtain ⟨H, I, rfl, rfl, hh, hI⟩ := nmO'_nats (bnE_zero he)
    have he0 : bnE (H : Int) 0 = 0 := bnE_nat (I := 0) hh (by decide)
    rw [he, bnP_nat hh hI] at HNM
    rw [he0, if_pos rfl] at HCU
    have hnb : n ≤ 1048576 := (hn he0).le
    by_cases hxn : x.length ≤ 65535
    · have hli : ¬ (65535 : Int) < (l : Int) := by omega
      have e1 : puEb rs (H : Int) (I : Int) n x = if (I : Int) = (n : Int) then reEb rs H (lfN H (I / 2 ^ H)) else 40 := by
        unfold puEb
        rw [if_pos he, if_pos hxn, bnP_nat hh hI, Int.toNat_natCast]
      have hnm := lfN_nm (k := I / 2 ^ H) hh (by have := Nat.div_le_self I (2 ^ H); omega)
      unfold puSb
      rw [e1, bnP_nat hh hI]
      generalize lfN H (I / 2 ^ H) = nm at *
      by_cases hin : I = n
      · subst hin
        rw [if_pos rfl]
        have HRD : Hid (∀ W : World, DkAt W d s rs D → PT W → Calls Tryz.prog 33 #[.pointer (some ⟨d, 0, none⟩), .int .i64 (H : Int), .string nm] W fun r w' => r = .returned (.int .i64 (reEb rs H nm)) ∧ OpR W w' d s D (reSb rs H nm)) := hide (fun W hW hP => readyB_any d s rs D W hW H nm hh hnm hP (by have := HW.out; omega))
        by_cases hr : reEb rs H nm = 0
        · have e2 : reSb rs H nm = crS rs nm := by unfold reEb at hr; unfold reSb; split at hr; cases hr; rename_i h0; rw [if_neg h0]
          rw [hr, e2] at HRD
          rw [hr, if_pos rfl]
          have hfe : fE (crS rs nm) nm = 0 := by
            rw [crS_is hnm]
            split
            · have e3 : play (rs ++ [rCr nm]) = upd (play rs) nm (some []) := by rw [play_snoc, do_cr]
              simp [fE, hnm, e3, upd_same]
            · rename_i h0
              cases hp : play rs nm with
              | none => exact absurd hp h0
              | some ys => simp [fE, hnm, hp]
          have hwc : wt (crS rs nm) ≤ wt rs + 1 := by
            rw [crS_is hnm]
            split
            · rw [wt_app]; simp [wt, rCr]
            · omega
          have HAP2 : Hid (∀ (W : World) (D1 : Dm) (a : Option Addr) (l c : Nat), DkAt W d s (crS rs nm) D1 → Sl W a l c (lfB x) → Calls Tryz.prog 27 #[.pointer (some ⟨d, 0, none⟩), .string nm, .slice a l c] W fun r w' => r = .returned (.int .i64 0) ∧ OpR W w' d s D1 (puW s rs nm (lfB x))) := hide (fun W D1 a l c hW hS => by
            have := append_any d s (crS rs nm) D1 W hW nm a l c (lfB x) hS (by have := HW.out; rw [lfB_len]; omega)
            rw [hfe] at this
            exact this)
          have HX := hide hxl
          have HXB := hide (lfB_isB hxn hxb)
          have HBE := hide (lfB_be x hxn)
          have hlu : IntKind.u16.wrap (l : Int) = (l : Int) := by rw [IntKind.wrap_u16]; omega
          have hl5 : l ≤ 65535 := by omega
          clear hr e2 hfe hwc hnm hn hI hh he he0 hd ht hwt e1 hs hap
          go_enter Tryz.func10, Tryz.ntmps10
          go_wp2_with (go_at_call 31; refine HMD.out.mono ?_; rintro r w' ⟨rfl, hw'⟩; subst w')
          refine (HNM.out _ HT.out).mono ?_
          rintro r w1 ⟨rfl, hb1⟩
          have HB1 := hide hb1
          clear hb1
          go_wp2_with fail
          refine (HCU.out _ (HD.out.below HB1.out) (HT.out.below HB1.out)).mono ?_
          rintro r w2 ⟨rfl, hb2⟩
          have HB2 := hide (on_below HB1.out hb2)
          clear hb2
          go_wp2_with fail
          refine (HRD.out _ (HD.out.below HB2.out) (HT.out.below HB2.out)).mono ?_
          rintro r w4 ⟨rfl, ho⟩
          obtain ⟨D1, a1, a2, a3, a4⟩ := ho
          have hsl : Sl w4 a l c x := ((HS.out.below HB2.out).chsB a2 (fun h0 y hy => HAP.out h0 y hy))
          have HSL := hide hsl
          have HA1 := hide a1
          have HOC : Hid (∀ w5 : World, OpR w4 w5 d s D1 (puW s rs nm (lfB x)) → OpR w w5 d s D (puW s rs nm (lfB x))) := hide (fun w5 h5 => OpR.pre HB2.out (OpR.comp a2 a3 a4 h5))
          clear a1 a2 a3 a4 hsl
          go_wp2_with fail
          refine (putUint16_any none 0 0 [] (l : Int) _ ⟨rfl, Nat.le_refl _, by omega, by omega, (fun x hx => by simp at hx), fun _ => ⟨rfl, rfl⟩, fun h => absurd h (by omega)⟩ (by omega) (by omega)).mono ?_
          rintro r w5 ⟨g, rfl, hg, hrow, hb5⟩
          rw [List.nil_append] at hrow
          have hown : Own w5 w4.heap.size (.slice (some ⟨g, 0, none⟩) (0 + 2) (0 + 2)) (be (l : Int) 2) := by
            have := Own.of_blkF hrow hg (by rw [be_length]; decide)
            rw [be_length] at this
            exact this
          have HO5 := hide hown
          have HB5 := hide hb5
          have HSL5 := hide (HSL.out.below hb5)
          clear hb5 hrow hown
          go_wp2_with (refine step_append rfl rfl rfl HO5.out HSL5.out (by rw [be_length]; omega) HB5.out.size ?_)
          intro v6 w6 ho6 hgr6 _
          have hbw : Below w4.heap.size w4 w6 := HB5.out.grown hgr6 HB5.out.size (fun k hk => HO5.out.lt k hk)
          rw [← HX.out, HBE.out] at ho6
          obtain ⟨va, vc, hv6, hs6⟩ := ho6.sl' HXB.out (by rw [lfB_len, HX.out]; omega)
          subst hv6
          have HS6 := hide hs6
          have HA6 := hide (HA1.out.below hbw)
          have HBW := hide hbw
          clear ho6 hgr6 hs6 hbw
          go_wp2_with fail
          refine (HAP2.out _ _ _ _ _ HA6.out HS6.out).mono ?_
          rintro r w7 ⟨rfl, ho7⟩
          have HO7 := hide (HOC.out _ (OpR.pre HBW.out ho7))
          clear ho7
          go_wp2
          go_ret
          exact ⟨rfl, HO7.out⟩
        · have e2 : reSb rs H nm = rs := by unfold reEb at hr; unfold reSb; split at hr; rename_i h0; rw [if_pos h0]; exact absurd rfl hr
          rw [e2] at HRD
          rw [if_neg hr]
          clear e2 hnm hn hI hh he he0 hd ht hwt e1 hs hap
          generalize reEb rs H nm = er at *
          go_enter Tryz.func10, Tryz.ntmps10
          go_wp2_with (go_at_call 31; refine HMD.out.mono ?_; rintro r w' ⟨rfl, hw'⟩; subst w')
          refine (HNM.out _ HT.out).mono ?_
          rintro r w1 ⟨rfl, hb1⟩
          have HB1 := hide hb1
          clear hb1
          go_wp2_with fail
          refine (HCU.out _ (HD.out.below HB1.out) (HT.out.below HB1.out)).mono ?_
          rintro r w2 ⟨rfl, hb2⟩
          have HB2 := hide (on_below HB1.out hb2)
          clear hb2
          go_wp2_with fail
          refine (HRD.out _ (HD.out.below HB2.out) (HT.out.below HB2.out)).mono ?_
          rintro r w4 ⟨rfl, ho⟩
          go_wp2
          go_ret
          exact ⟨rfl, ho.pre HB2.out⟩
      · have hin2 : ¬ (I : Int) = (n : Int) := by omega
        rw [if_neg hin2, if_neg (by decide)]
        clear hnm hn hI hh he he0 hd ht hwt e1 hs hap
        go_enter Tryz.func10, Tryz.ntmps10
        go_wp2_with (go_at_call 31; refine HMD.out.mono ?_; rintro r w' ⟨rfl, hw'⟩; subst w')
        refine (HNM.out _ HT.out).mono ?_
        rintro r w1 ⟨rfl, hb1⟩
        have HB1 := hide hb1
        clear hb1
        go_wp2_with fail
        refine (HCU.out _ (HD.out.below HB1.out) (HT.out.below HB1.out)).mono ?_
        rintro r w2 ⟨rfl, hb2⟩
        have HB2 := hide (on_below HB1.out hb2)
        clear hb2
        go_wp2
        go_ret
        exact ⟨rfl, OpR.below HD.out HB2.out⟩
    · have hli : (65535 : Int) < (l : Int) := by omega
      have e1 : puEb rs (H : Int) (I : Int) n x = 3 := by unfold puEb; rw [if_pos he, if_neg hxn]
      unfold puSb
      rw [e1, if_neg (by decide)]
      generalize lfN H (I / 2 ^ H) = nm at *
      clear hn hI hh he he0 hd ht hwt e1 hs hap HCU
      go_enter Tryz.func10, Tryz.ntmps10
      go_wp2_with (go_at_call 31; refine HMD.out.mono ?_; rintro r w' ⟨rfl, hw'⟩; subst w')
      refine (HNM.out _ HT.out).mono ?_
      rintro r w1 ⟨rfl, hb1⟩
      have HB1 := hide hb1
      clear hb1
      go_wp2
      go_ret
      exact ⟨rfl, OpR.below HD.out HB1.out⟩
  · have e1 : puEb rs h i n x = 2 := by unfold puEb; rw [if_neg he]
    unfold puSb
    rw [e1, if_neg (by decide)]
    have e3 : bnE h i = 2 := by rcases bnE_bin h i with k | k; exact absurd k he; exact k
    rw [e3] at HNM
    generalize bnP h i = nm at *
    clear hd ht hn hwt he e1 e3 hs hap HCU
    go_enter Tryz.func10, Tryz.ntmps10
    go_wp2_with (go_at_call 31; refine HMD.out.mono ?_; rintro r w' ⟨rfl, hw'⟩; subst w')
    refine (HNM.out _ HT.out).mono ?_
    rintro r w1 ⟨rfl, hb1⟩
    have HB1 := hide hb1
    clear hb1
    go_wp2
    go_ret
    exact ⟨rfl, OpR.below HD.out HB1.out⟩
end

end Go.Proofs.YtpocadbhajacaaaGreatDoor

/-
  A region that draws its order inside a round of a range over a function: walked by hand, as outside (as Kr), and what is held only till a given operation comes (as Ou).
-/

namespace Go.Proofs.YtpocadbhajacaaaGreatDoor
open Go.RowKit Go.Shelf
set_option linter.unusedVariables false

section
variable {F : Fence} {n : Nat} {P : Program} {ops : Array Oper} {md : Region.Mode}
theorem wpOpIn_of_wpOp (hF : WideF F) (hd : ops.all noDefer = true) {i : Nat} {a : Act} {K K' : Act → World → Prop} {Q : Exit → Act → World → Prop} {w : World} (hL : ¬ LetsOut Q) (h : ∀ a w', K a w' → K' a w') (hh : wpOp P ops Q i K a w) : wpOpIn F n P ops Q i K' a w := by
  unfold wpOp at hh
  unfold wpOpIn
  split
  · rename_i ho; simp only [ho] at hh; exact h _ _ hh
  · rename_i o ho
    simp only [ho] at hh
    split
    · rename_i hw
      simp only [hw, if_true] at hh
      rcases hh with hh | ⟨_, hh⟩
      · refine lift_op hF (fun c hc => ?_) (Oper.wp_mono h hh)
        have h1 := Array.all_eq_true.1 hd
        obtain ⟨hi, he⟩ := Array.getElem?_eq_some_iff.1 ho
        have h2 := h1 i hi
        rw [he] at h2
        simp [noDefer, hc] at h2
      · exact absurd hh hL
    · rename_i hw; simp only [hw] at hh; exact ⟨fun f _ => hF.fn f, h _ _ hh⟩
theorem wpAnyIn_of_any (hF : WideF F) (hd : ops.all noDefer = true) {Q : Exit → Act → World → Prop} (hL : ¬ LetsOut Q) : ∀ (fuel : Nat) (listed : Array Bool) (a : Act) (w : World), wpAny P md ops Q fuel listed a w → wpAnyIn F n P md ops Q fuel listed a w
  | 0, _, _, _, h => h
  | fuel + 1, _, _, _, h => ⟨h.1, fun i hi => wpOpIn_of_wpOp hF hd hL (fun a' w' h' => wpAnyIn_of_any hF hd hL fuel _ a' w' h') (h.2 i hi)⟩
/-- Only the normal way out. -/
def Only (R : Act → World → Prop) : Exit → Act → World → Prop
  | .normal, a, w => R a w
  | _, _, _ => False
theorem Only.imp {Q : Exit → Act → World → Prop} : ∀ (e : Exit) (a : Act) (w : World), Only (fun a w => Q .normal a w) e a w → Q e a w := fun e a w h => by
  cases e <;> first | exact h | exact (h : False).elim
theorem Only.normal {Q : Exit → Act → World → Prop} {a : Act} {w : World} (h : Q .normal a w) : Only (fun a w => Q .normal a w) .normal a w := h
theorem Only.out (R : Act → World → Prop) : ¬ LetsOut (Only R) := by rintro ⟨a, w, h⟩; exact h
theorem wpIn_region_held {S : World → Prop} {id : Nat} {Q : Exit → Act → World → Prop} {a : Act} {w : World} (hF : WideF F) (hm : P.follows .mixedOrders = true) (hd : ops.all noDefer = true) (hS : S w.drew)
    (h : S w.drew → wpAnyH P .any ops (Only (fun a w => Q .normal a w)) S ops.size (Array.replicate ops.size false) a w.drew) : (Code.region id ops true).wpIn F n P Q a w :=
  Code.wpIn_mono Only.imp (wpIn_region_any hm (wpAnyIn_of_any hF hd (Only.out _) _ _ _ _ (wpAny_of_held _ _ _ _ (h hS))))
theorem wpIn_region_U {S : World → Prop} {q id : Nat} {Q : Exit → Act → World → Prop} {a : Act} {w : World} (hF : WideF F) (hm : P.follows .mixedOrders = true) (hd : ops.all noDefer = true)
    (h : wpAnyU P .any ops (Only (fun a w => Q .normal a w)) S q ops.size (Array.replicate ops.size false) a w.drew) : (Code.region id ops true).wpIn F n P Q a w :=
  Code.wpIn_mono Only.imp (wpIn_region_any hm (wpAnyIn_of_any hF hd (Only.out _) _ _ _ _ (wpAny_of_U _ _ _ _ h)))
end

end Go.Proofs.YtpocadbhajacaaaGreatDoor
