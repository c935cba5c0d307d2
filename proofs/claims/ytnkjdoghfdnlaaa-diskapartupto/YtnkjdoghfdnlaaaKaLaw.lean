/-
  The walk of DiskApart.
-/
import Derived.Test.YtnkjdoghfdnlaaaKml
namespace Go.Proofs.Ytnkjdoghfdnlaaa
open Go.RowKit
set_option linter.unusedVariables false

set_option maxRecDepth 100000 in
set_option maxHeartbeats 2000000 in
theorem dapart_walk (sec : Int) (a1 : Option Addr) (n1 c1 : Nat) (L : List Ac) (a2 : Option Addr) (n2 c2 : Nat) (M : List Ac) (w : World) (hs1 : -9223372036854775808 ≤ sec) (hs2 : sec ≤ 9223372036854775807) (hL : Acts w a1 n1 c1 L) (hM : Acts w a2 n2 c2 M) :
    Calls Try.prog 6 #[.int .i64 sec, .slice a1 n1 c1, .slice a2 n2 c2] w fun e w' => e = .returned (.bool true) ∧ Below w.heap.size w w' := by
  by_cases hs : 1 ≤ sec ∧ sec ≤ 4096
  · obtain ⟨s, rfl⟩ : ∃ s : Nat, sec = (s : Int) := ⟨sec.toNat, by omega⟩
    have hsa : 1 ≤ s := by omega
    have hsb : s ≤ 4096 := by omega
    have HL := hide hL
    have HM := hide hM
    clear hL hM hs hs1 hs2
    go_enter Try.func6, Try.ntmps6
    go_wp2_with (go_at_call 7; refine (new_ok _ _ (by omega) (by omega)).mono ?_; rintro e w1 ⟨d, m, rfl, hN⟩)
    have D0 := hide (hN.dkAt hsa hsb)
    have OW1 := hide hN.own
    have BW1 := hide hN.bel
    have HWR : Hid (wt ([] : List Rw) ≤ 0) := hide (Nat.le_refl _)
    have HI0 : Hid (LpI w w1 w1 d s [] ⟨m, .slice none 0 0, [], []⟩ L 0) := hide ⟨Nat.zero_le _, OpR.refl D0.out, BW1.out⟩
    clear hN
    go_loopw [9] (fun i wr => ∃ k : Nat, i = .int .i64 (k : Int) ∧ LpI w w1 wr d s [] ⟨m, .slice none 0 0, [], []⟩ L k) (fun i _ => L.length - (intOf i).toNat)
    case atStart => exact ⟨0, rfl, HI0.out⟩
    case round =>
      obtain ⟨k, rfl, hI⟩ := hrel
      have HI := hide hI
      have hk := hI.le
      clear hI
      by_cases hlt : k < L.length
      · obtain ⟨x, hx⟩ : ∃ x, L[k]? = some x := ⟨_, List.getElem?_eq_getElem hlt⟩
        obtain ⟨b0, o0, rfl, hrg⟩ := HL.out.hcell k x hx
        have hlen := HL.out.hlen
        have hix := ac_at b0 o0 n1 c1 k (by omega)
        have HRG := hide (rangeAt_below hrg HI.out.bel)
        have HXI := hide ((HL.out.hin k x hx).below HI.out.bel)
        have HX := hide hx
        have hkb : k ≤ 1048576 := by have h1 := len_bulks L; have h2 := HL.out.hsum; omega
        have hlti : (k : Int) < (n1 : Int) := by omega
        clear hrg hx hlen
        go_wp2_with (refine step_loadR wAc rfl rfl x.cells HRG.out rfl ?_)
        obtain ⟨D1, k1, k2, k3, k4⟩ := HI.out.op
        refine (call_any _ s _ D1 x _ k1 HXI.out ?_).mono ?_
        · have h1 := wt_acS k1.s1 (L.take k) []
          have h2 := bulks_succ L k x HX.out
          have h3 := bulks_take L (k + 1)
          have h4 := HL.out.hsum
          have h5 := HWR.out
          omega
        rintro e w2 ⟨rfl, hop⟩
        have hop2 : OpR w1 w2 d s (⟨m, .slice none 0 0, [], []⟩ : Dm) (acS s [] (L.take (k + 1))) := by rw [acS_succ s _ L k x HX.out]; exact OpR.step k2 k3 k4 hop
        have hb2 : Below w.heap.size w w2 := by
          obtain ⟨D2, _, j2, _, _⟩ := hop2
          exact BW1.out.trans (j2.below (fun z hz hown => by have := OW1.out z hown; omega) BW1.out.size)
        have HI2 : Hid (LpI w w1 w2 d s [] (⟨m, .slice none 0 0, [], []⟩ : Dm) L (k + 1)) := hide ⟨hlt, hop2, hb2⟩
        clear hop hop2 hb2 k1 k2 k3 k4 hix
        go_wp2
        go_roundw
        case rel => exact ⟨k + 1, by go_num, HI2.out⟩
        case measure => simp [intOf]; omega
      · have hkl : k = L.length := by omega
        subst hkl
        have hlen := HL.out.hlen
        have hlti : ¬ (L.length : Int) < (n1 : Int) := by omega
        have HOP : Hid (OpR w1 wr d s (⟨m, .slice none 0 0, [], []⟩ : Dm) (acS s [] L)) := hide (by have := HI.out.op; rw [List.take_length] at this; exact this)
        have HBL := hide HI.out.bel
        clear HI hk hlen
        -- two disks are had of it
        have HWL : Hid (wt (acS s [] L) ≤ 2097152) := hide (by have h1 := wt_acS hsa L []; have h2 := HL.out.hsum; have h3 := HWR.out; omega)
        obtain ⟨D1, d1, ch1, own1, ro1⟩ := HOP.out
        clear HOP
        revert HWL d1
        generalize acS s [] L = rs
        intro HWL d1
        have X1 := hide d1
        clear d1 ch1 own1 ro1
        go_wp2_with (go_at_call 32; refine (writes_any d s rs D1 _ X1.out).mono ?_; rintro e wr ⟨rfl, rfl⟩)
        refine (after_any d s rs D1 _ X1.out rs.length (Nat.le_refl _) (by have := HWL.out; omega)).mono ?_
        rintro e W2 ⟨a, Da, rfl, hA⟩
        rw [List.take_length] at hA
        have HA := hide hA
        have X2 := hide (X1.out.below hA.bel)
        clear hA
        go_wp2_with (go_at_call 32; refine (writes_any d s rs D1 _ X2.out).mono ?_; rintro e W2 ⟨rfl, rfl⟩)
        refine (after_any d s rs D1 _ X2.out rs.length (Nat.le_refl _) (by have := HWL.out; omega)).mono ?_
        rintro e W3 ⟨b, Db, rfl, hB⟩
        rw [List.take_length] at hB
        have HB := hide hB
        have X3 := hide (X2.out.below hB.bel)
        have A3 := hide (HA.out.dk.below hB.bel)
        clear hB X2
        go_wp2_with fail
        refine (same_any a b s s rs rs Da Db true _ A3.out HB.out.dk (by have := HWL.out; omega) (by have := HWL.out; omega) (by simp)).mono ?_
        rintro e W4 ⟨rfl, hb4⟩
        have X4 := hide (X3.out.below hb4)
        have A4 := hide (A3.out.below hb4)
        have B4 := hide (HB.out.dk.below hb4)
        have BW4 : Hid (Below w.heap.size w W4) := hide (((HBL.out.trans (HA.out.bel.mono HBL.out.size)).trans (HB.out.bel.mono (Nat.le_trans HBL.out.size HA.out.bel.size))).trans (hb4.mono (Nat.le_trans (Nat.le_trans HBL.out.size HA.out.bel.size) HB.out.bel.size)))
        have OWA : Hid (∀ k, Da.own a k → w.heap.size ≤ k) := hide (fun k hk => Nat.le_trans HBL.out.size (HA.out.own k hk))
        have OWB : Hid (∀ k, Db.own b k → w.heap.size ≤ k) := hide (fun k hk => Nat.le_trans (Nat.le_trans HBL.out.size HA.out.bel.size) (HB.out.own k hk))
        -- what lies where
        have DL : Hid ((∀ k, D1.own d k ∨ D1.ro k → k < wr.heap.size) ∧ (∀ k, Da.own a k → wr.heap.size ≤ k ∧ k < W2.heap.size) ∧ (∀ k, Db.own b k → W2.heap.size ≤ k ∧ k < W4.heap.size) ∧ (∀ k, Da.ro k → k < wr.heap.size) ∧ (∀ k, Db.ro k → k < wr.heap.size) ∧ W2.heap.size ≤ W4.heap.size) := hide
          ⟨fun k hk => X1.out.lt hk, fun k hk => ⟨HA.out.own k hk, HA.out.dk.lt (.inl hk)⟩, fun k hk => ⟨HB.out.own k hk, B4.out.lt (.inl hk)⟩, fun k hk => X1.out.lt (.inr (HA.out.ro k hk)), fun k hk => X1.out.lt (.inr (HB.out.ro k hk)), Nat.le_trans HB.out.bel.size hb4.size⟩
        have HI0 : Hid (LpI w W4 W4 a s rs Da M 0) := hide ⟨Nat.zero_le _, OpR.refl A4.out, BW4.out⟩
        have HWR2 : Hid (wt rs ≤ 2097152) := HWL
        clear hb4 HA HB X1 X3 A3
        go_wp2_with fail
        go_loopw [13] (fun i wr => ∃ k : Nat, i = .int .i64 (k : Int) ∧ LpI w W4 wr a s rs Da M k) (fun i _ => M.length - (intOf i).toNat)
        case atStart => exact ⟨0, rfl, HI0.out⟩
        case round =>
          obtain ⟨k, rfl, hI⟩ := hrel
          have HI := hide hI
          have hk := hI.le
          clear hI
          by_cases hlt : k < M.length
          · obtain ⟨x, hx⟩ : ∃ x, M[k]? = some x := ⟨_, List.getElem?_eq_getElem hlt⟩
            obtain ⟨b0, o0, rfl, hrg⟩ := HM.out.hcell k x hx
            have hlen := HM.out.hlen
            have hix := ac_at b0 o0 n2 c2 k (by omega)
            have HRG := hide (rangeAt_below hrg HI.out.bel)
            have HXI := hide ((HM.out.hin k x hx).below HI.out.bel)
            have HX := hide hx
            have hkb : k ≤ 1048576 := by have h1 := len_bulks M; have h2 := HM.out.hsum; omega
            have hlti : (k : Int) < (n2 : Int) := by omega
            clear hrg hx hlen
            go_wp2_with (refine step_loadR wAc rfl rfl x.cells HRG.out rfl ?_)
            obtain ⟨D1, k1, k2, k3, k4⟩ := HI.out.op
            refine (call_any _ s _ D1 x _ k1 HXI.out ?_).mono ?_
            · have h1 := wt_acS k1.s1 (M.take k) rs
              have h2 := bulks_succ M k x HX.out
              have h3 := bulks_take M (k + 1)
              have h4 := HM.out.hsum
              have h5 := HWR2.out
              omega
            rintro e w2 ⟨rfl, hop⟩
            have hop2 : OpR W4 w2 a s Da (acS s rs (M.take (k + 1))) := by rw [acS_succ s _ M k x HX.out]; exact OpR.step k2 k3 k4 hop
            have hb2 : Below w.heap.size w w2 := by
              obtain ⟨D2, _, j2, _, _⟩ := hop2
              exact BW4.out.trans (j2.below (fun z hz hown => by have := OWA.out z hown; omega) BW4.out.size)
            have HI2 : Hid (LpI w W4 w2 a s rs Da M (k + 1)) := hide ⟨hlt, hop2, hb2⟩
            clear hop hop2 hb2 k1 k2 k3 k4 hix
            go_wp2
            go_roundw
            case rel => exact ⟨k + 1, by go_num, HI2.out⟩
            case measure => simp [intOf]; omega
          · have hkl : k = M.length := by omega
            subst hkl
            have hlen := HM.out.hlen
            have hlti : ¬ (M.length : Int) < (n2 : Int) := by omega
            have HOP : Hid (OpR W4 wr a s Da (acS s rs M)) := hide (by have := HI.out.op; rw [List.take_length] at this; exact this)
            have HBL := hide HI.out.bel
            clear HI hk hlen
            have HWM : Hid (wt (acS s rs M) ≤ 4194304) := hide (by have h1 := wt_acS hsa M rs; have h2 := HM.out.hsum; have h3 := HWR2.out; omega)
            obtain ⟨Da2, a5, ch5, own5, ro5⟩ := HOP.out
            clear HOP
            have A5 := hide a5
            have OWN5 := hide own5
            have RO5 := hide ro5
            have X5 : Hid (DkAt wr d s rs D1) := hide (X4.out.chs ch5 (fun k hk hown => by have h1 := DL.out.1 k hk; have h2 := DL.out.2.1 k hown; omega))
            have B5 : Hid (DkAt wr b s rs Db) := hide (B4.out.chs ch5 (fun k hk hown => by
              have h2 := DL.out.2.1 k hown
              rcases hk with hk | hk
              · have h1 := DL.out.2.2.1 k hk; omega
              · have h1 := DL.out.2.2.2.2.1 k hk; omega))
            have SZ5 : Hid (W4.heap.size ≤ wr.heap.size) := hide ch5.size
            have HBL5 := HBL
            clear a5 own5 ro5 ch5 X4 B4 A4 HBL
            go_wp2_with fail
            refine (same_any d b s s rs rs D1 Db true _ X5.out B5.out (by have := HWL.out; omega) (by have := HWL.out; omega) (by simp)).mono ?_
            rintro e W6 ⟨rfl, hb6⟩
            have A6 := hide (A5.out.below hb6)
            have B6 := hide (B5.out.below hb6)
            have BW6 : Hid (Below w.heap.size w W6) := hide (HBL5.out.trans (hb6.mono HBL5.out.size))
            have HI0 : Hid (LpI w W6 W6 b s rs Db M 0) := hide ⟨Nat.zero_le _, OpR.refl B6.out, BW6.out⟩
            clear hb6 X5 B5 A5
            go_wp2_with fail
            go_loopw [14] (fun i wr => ∃ k : Nat, i = .int .i64 (k : Int) ∧ LpI w W6 wr b s rs Db M k) (fun i _ => M.length - (intOf i).toNat)
            case atStart => exact ⟨0, rfl, HI0.out⟩
            case round =>
              obtain ⟨k, rfl, hI⟩ := hrel
              have HI := hide hI
              have hk := hI.le
              clear hI
              by_cases hlt : k < M.length
              · obtain ⟨x, hx⟩ : ∃ x, M[k]? = some x := ⟨_, List.getElem?_eq_getElem hlt⟩
                obtain ⟨b0, o0, rfl, hrg⟩ := HM.out.hcell k x hx
                have hlen := HM.out.hlen
                have hix := ac_at b0 o0 n2 c2 k (by omega)
                have HRG := hide (rangeAt_below hrg HI.out.bel)
                have HXI := hide ((HM.out.hin k x hx).below HI.out.bel)
                have HX := hide hx
                have hkb : k ≤ 1048576 := by have h1 := len_bulks M; have h2 := HM.out.hsum; omega
                have hlti : (k : Int) < (n2 : Int) := by omega
                clear hrg hx hlen
                go_wp2_with (refine step_loadR wAc rfl rfl x.cells HRG.out rfl ?_)
                obtain ⟨D1, k1, k2, k3, k4⟩ := HI.out.op
                refine (call_any _ s _ D1 x _ k1 HXI.out ?_).mono ?_
                · have h1 := wt_acS k1.s1 (M.take k) rs
                  have h2 := bulks_succ M k x HX.out
                  have h3 := bulks_take M (k + 1)
                  have h4 := HM.out.hsum
                  have h5 := HWR2.out
                  omega
                rintro e w2 ⟨rfl, hop⟩
                have hop2 : OpR W6 w2 b s Db (acS s rs (M.take (k + 1))) := by rw [acS_succ s _ M k x HX.out]; exact OpR.step k2 k3 k4 hop
                have hb2 : Below w.heap.size w w2 := by
                  obtain ⟨D2, _, j2, _, _⟩ := hop2
                  exact BW6.out.trans (j2.below (fun z hz hown => by have := OWB.out z hown; omega) BW6.out.size)
                have HI2 : Hid (LpI w W6 w2 b s rs Db M (k + 1)) := hide ⟨hlt, hop2, hb2⟩
                clear hop hop2 hb2 k1 k2 k3 k4 hix
                go_wp2
                go_roundw
                case rel => exact ⟨k + 1, by go_num, HI2.out⟩
                case measure => simp [intOf]; omega
              · have hkl : k = M.length := by omega
                subst hkl
                have hlen := HM.out.hlen
                have hlti : ¬ (M.length : Int) < (n2 : Int) := by omega
                have HOP : Hid (OpR W6 wr b s Db (acS s rs M)) := hide (by have := HI.out.op; rw [List.take_length] at this; exact this)
                have HBL := hide HI.out.bel
                clear HI hk hlen
                obtain ⟨Db2, b7, ch7, own7, ro7⟩ := HOP.out
                clear HOP
                have B7 := hide b7
                have A7 : Hid (DkAt wr a s (acS s rs M) Da2) := hide (A6.out.chs ch7 (fun k hk hown => by
                  have h2 := DL.out.2.2.1 k hown
                  have h3 := DL.out.2.2.2.2.2
                  rcases hk with hk | hk
                  · rcases OWN5.out k hk with h | h
                    · have h1 := DL.out.2.1 k h; omega
                    · omega
                  · rcases RO5.out k hk with h | h
                    · have h1 := DL.out.2.2.2.1 k h
                      have h5 := (DL.out.2.1 a (.inl rfl))
                      omega
                    · omega))
                clear b7 own7 ro7 ch7 A6 B6
                revert A7 B7 HWM
                generalize acS s rs M = rs2
                intro HWM B7 A7
                go_wp2_with fail
                refine (same_any a b s s rs2 rs2 Da2 Db2 true _ A7.out B7.out (by have := HWM.out; omega) (by have := HWM.out; omega) (by simp)).mono ?_
                rintro e W8 ⟨rfl, hb8⟩
                have A8 := hide (A7.out.below hb8)
                have B8 := hide (B7.out.below hb8)
                have BW8 : Hid (Below w.heap.size w W8) := hide (HBL.out.trans (hb8.mono HBL.out.size))
                clear hb8
                go_wp2_with fail
                refine (writes_any a s rs2 Da2 _ A8.out).mono ?_
                rintro e W8 ⟨rfl, rfl⟩
                go_wp2_with fail
                refine (writes_any b s rs2 Db2 _ B8.out).mono ?_
                rintro e W8 ⟨rfl, rfl⟩
                go_wp2
                go_ret
                exact ⟨by simp, BW8.out⟩
  · have HH := hide hs
    clear hs hL hM
    go_enter Try.func6, Try.ntmps6
    go_wp2_with (go_at_call 7; refine (new_bad _ _ HH.out).mono ?_; rintro e w ⟨rfl, rfl⟩)
    go_ret
    exact ⟨rfl, Below.refl _ _⟩

end Go.Proofs.Ytnkjdoghfdnlaaa
