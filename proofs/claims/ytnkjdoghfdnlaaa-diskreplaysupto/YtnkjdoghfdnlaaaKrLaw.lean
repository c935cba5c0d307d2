/-
  The walk of DiskReplays.
-/
import Derived.Test.YtnkjdoghfdnlaaaKml
import Derived.Test.YtnkjdoghfdnlaaaKre
namespace Go.Proofs.Ytnkjdoghfdnlaaa
open Go.RowKit
set_option linter.unusedVariables false

theorem mod_in (q : Int) (N : Nat) (hN : N ≤ 16777216) : ∃ c : Nat, c ≤ N ∧ (wrap64 (q.tmod ((N : Int) + 1) + ((N : Int) + 1))).tmod ((N : Int) + 1) = (c : Int) := by
  have hp : (0 : Int) < ((N + 1 : Nat) : Int) := by omega
  have e : ((N : Int) + 1) = ((N + 1 : Nat) : Int) := by omega
  rw [e]
  have h1 := Int.tmod_lt_of_pos q hp
  have h2 := Int.lt_tmod_of_pos q hp
  generalize q.tmod ((N + 1 : Nat) : Int) = r at *
  have hw : wrap64 (r + ((N + 1 : Nat) : Int)) = r + ((N + 1 : Nat) : Int) := by unfold wrap64; omega
  rw [hw]
  have h4 : 0 ≤ (r + ((N + 1 : Nat) : Int)).tmod ((N + 1 : Nat) : Int) := Int.tmod_nonneg _ (by omega)
  have h5 := Int.tmod_lt_of_pos (r + ((N + 1 : Nat) : Int)) hp
  exact ⟨((r + ((N + 1 : Nat) : Int)).tmod ((N + 1 : Nat) : Int)).toNat, by omega, by omega⟩
set_option maxRecDepth 100000 in
set_option maxHeartbeats 2000000 in
theorem dreplays_walk (sec : Int) (a1 : Option Addr) (n1 c1 : Nat) (L : List Ac) (q : Int) (w : World) (hs1 : -9223372036854775808 ≤ sec) (hs2 : sec ≤ 9223372036854775807) (hL : Acts w a1 n1 c1 L) (hq1 : -9223372036854775808 ≤ q) (hq2 : q ≤ 9223372036854775807) :
    Calls Try.prog 5 #[.int .i64 sec, .slice a1 n1 c1, .int .i64 q] w fun e w' => e = .returned (.bool true) ∧ Below w.heap.size w w' := by
  by_cases hs : 1 ≤ sec ∧ sec ≤ 4096
  · obtain ⟨s, rfl⟩ : ∃ s : Nat, sec = (s : Int) := ⟨sec.toNat, by omega⟩
    have hsa : 1 ≤ s := by omega
    have hsb : s ≤ 4096 := by omega
    have HL := hide hL
    clear hL hs hs1 hs2 hq1 hq2
    go_enter Try.func5, Try.ntmps5
    go_wp2_with fail
    refine (new_ok _ _ (by omega) (by omega)).mono ?_
    rintro e w0 ⟨d, m, rfl, hN⟩
    go_wp2_with fail
    refine (new_ok _ _ (by omega) (by omega)).mono ?_
    rintro e w1 ⟨o, mo, rfl, hNo⟩
    have D0 := hide ((hN.dkAt hsa hsb).below hNo.bel)
    have O0 := hide (hNo.dkAt hsa hsb)
    have OW1 := hide hN.own
    have OWO : Hid (∀ k, (⟨mo, .slice none 0 0, [], []⟩ : Dm).own o k → w0.heap.size ≤ k ∧ w.heap.size ≤ k) := hide (fun k hk => ⟨hNo.own k hk, Nat.le_trans hN.bel.size (hNo.own k hk)⟩)
    have DLO : Hid (∀ k, (⟨m, .slice none 0 0, [], []⟩ : Dm).own d k → k < w0.heap.size) := hide (fun k hk => (hN.dkAt hsa hsb).lt (.inl hk))
    have BW1 : Hid (Below w.heap.size w w1) := hide (hN.bel.trans (hNo.bel.mono hN.bel.size))
    have HWR : Hid (wt ([] : List Rw) ≤ 0) := hide (Nat.le_refl _)
    have HI0 : Hid (LpI w w1 w1 d s [] ⟨m, .slice none 0 0, [], []⟩ L 0) := hide ⟨Nat.zero_le _, OpR.refl D0.out, BW1.out⟩
    have SZ01 := hide hNo.bel.size
    clear hN hNo
    go_wp2_with fail
    go_loopw [11] (fun i wr => ∃ k : Nat, i = .int .i64 (k : Int) ∧ LpI w w1 wr d s [] ⟨m, .slice none 0 0, [], []⟩ L k) (fun i _ => L.length - (intOf i).toNat)
    case atStart => exact ⟨0, rfl, HI0.out⟩
    case round =>
      obtain ⟨k, rfl, hI⟩ := hrel
      have HI := hide hI
      have hk := hI.le
      clear hI
      by_cases hlt : k < L.length
      · obtain ⟨x, hx⟩ : ∃ x, L[k]? = some x := ⟨_, List.getElem?_eq_getElem hlt⟩
        obtain ⟨b0, o0, rfl, hrg⟩ := HL.out.hcell k x hx
        have hlen := HL.out.hlen
        have hix := ac_at b0 o0 n1 c1 k (by omega)
        have HRG := hide (rangeAt_below hrg HI.out.bel)
        have HXI := hide ((HL.out.hin k x hx).below HI.out.bel)
        have HX := hide hx
        have hkb : k ≤ 1048576 := by have h1 := len_bulks L; have h2 := HL.out.hsum; omega
        have hlti : (k : Int) < (n1 : Int) := by omega
        clear hrg hx hlen
        go_wp2_with (refine step_loadR wAc rfl rfl x.cells HRG.out rfl ?_)
        obtain ⟨D1, k1, k2, k3, k4⟩ := HI.out.op
        refine (call_any _ s _ D1 x _ k1 HXI.out ?_).mono ?_
        · have h1 := wt_acS k1.s1 (L.take k) []
          have h2 := bulks_succ L k x HX.out
          have h3 := bulks_take L (k + 1)
          have h4 := HL.out.hsum
          have h5 := HWR.out
          omega
        rintro e w2 ⟨rfl, hop⟩
        have hop2 : OpR w1 w2 d s (⟨m, .slice none 0 0, [], []⟩ : Dm) (acS s [] (L.take (k + 1))) := by rw [acS_succ s _ L k x HX.out]; exact OpR.step k2 k3 k4 hop
        have hb2 : Below w.heap.size w w2 := by
          obtain ⟨D2, _, j2, _, _⟩ := hop2
          exact BW1.out.trans (j2.below (fun z hz hown => by have := OW1.out z hown; omega) BW1.out.size)
        have HI2 : Hid (LpI w w1 w2 d s [] (⟨m, .slice none 0 0, [], []⟩ : Dm) L (k + 1)) := hide ⟨hlt, hop2, hb2⟩
        clear hop hop2 hb2 k1 k2 k3 k4 hix
        go_wp2
        go_roundw
        case rel => exact ⟨k + 1, by go_num, HI2.out⟩
        case measure => simp [intOf]; omega
      · have hkl : k = L.length := by omega
        subst hkl
        have hlen := HL.out.hlen
        have hlti : ¬ (L.length : Int) < (n1 : Int) := by omega
        have HOP : Hid (OpR w1 wr d s (⟨m, .slice none 0 0, [], []⟩ : Dm) (acS s [] L)) := hide (by have := HI.out.op; rw [List.take_length] at this; exact this)
        have HBL := hide HI.out.bel
        clear HI hk hlen
        have HWL : Hid (wt (acS s [] L) ≤ 2097152) := hide (by have h1 := wt_acS hsa L []; have h2 := HL.out.hsum; have h3 := HWR.out; omega)
        obtain ⟨D1, d1, ch1, own1, ro1⟩ := HOP.out
        clear HOP
        have O1 : Hid (DkAt wr o s [] ⟨mo, .slice none 0 0, [], []⟩) := hide (O0.out.chs ch1 (fun k hk hd => by
          have h1 := DLO.out k hd
          rcases hk with hk | ⟨x, hx, _⟩
          · have h2 := (OWO.out k hk).1; omega
          · cases hx))
        -- what lies where
        have SEP : Hid (∀ k, D1.own d k ∨ D1.ro k → ¬ (⟨mo, .slice none 0 0, [], []⟩ : Dm).own o k) := hide (fun k hk ho => by
          have h1 := OWO.out k ho
          have h2 := O0.out.lt (k := k) (.inl ho)
          rcases hk with hk | hk
          · rcases own1 k hk with h | h
            · have := DLO.out k h; omega
            · omega
          · rcases ro1 k hk with ⟨x, hx, _⟩ | h
            · cases hx
            · omega)
        revert HWL d1
        generalize acS s [] L = rs
        intro HWL d1
        have X1 := hide d1
        clear d1 ch1 own1 ro1 O0 D0
        have hrl : rs.length ≤ 2097152 := Nat.le_trans (len_wt rs) HWL.out
        obtain ⟨N, hN1, hN2⟩ := mod_in q rs.length (by omega)
        go_wp2_with (go_at_call 32; refine (writes_any d s rs D1 _ X1.out).mono ?_; rintro e wr ⟨rfl, rfl⟩)
        have HI2 : Hid (∃ Do, DkAt wr o s (rs.take 0) Do ∧ Chs ((⟨mo, .slice none 0 0, [], []⟩ : Dm).own o) wr wr ∧ (∀ k, Do.own o k → (⟨mo, .slice none 0 0, [], []⟩ : Dm).own o k ∨ wr.heap.size ≤ k) ∧ (∀ k, Do.ro k → (⟨mo, .slice none 0 0, [], []⟩ : Dm).ro k ∨ wr.heap.size ≤ k)) := hide (OpR.refl (by rw [List.take_zero]; exact O1.out))
        have HN1 := hide hN1
        have OWO2 : Hid (∀ k, (⟨mo, .slice none 0 0, [], []⟩ : Dm).own o k → w.heap.size ≤ k) := hide (fun k hk => (OWO.out k hk).2)
        clear hN2 hN1
        obtain ⟨W1, hW1⟩ : ∃ W1, W1 = wr := ⟨_, rfl⟩
        rw [← hW1] at HI2 X1 HBL O1
        go_loopw [13] (fun i wr => ∃ k : Nat, i = .int .i64 (k : Int) ∧ k ≤ N ∧ OpR W1 wr o s ⟨mo, .slice none 0 0, [], []⟩ (rs.take k) ∧ Below w.heap.size w wr) (fun i _ => N - (intOf i).toNat)
        case atStart =>
          rw [← hW1]
          exact ⟨0, rfl, Nat.zero_le _, HI2.out, HBL.out⟩
        case round =>
          clear hW1
          obtain ⟨k, rfl, hkN, hop, hbel⟩ := hrel
          obtain ⟨Do, e1, e2, e3, e4⟩ := hop
          have DO := hide e1
          have CH := hide e2
          have OW := hide e3
          have RO := hide e4
          have BL := hide hbel
          have X2 : Hid (DkAt wr d s rs D1) := hide (X1.out.chs e2 SEP.out)
          clear e1 e2 e3 e4 hbel
          by_cases hlt2 : k < N
          · obtain ⟨r, hr⟩ : ∃ r, rs[k]? = some r := ⟨_, List.getElem?_eq_getElem (by have := HN1.out; omega)⟩
            have hlti : (k : Int) < (N : Int) := by omega
            have HLR := hide (Val_at s X2.out.val hr)
            have HTK : Hid (rs.take (k + 1) = rs.take k ++ [r]) := hide (by
              obtain ⟨hk, rfl⟩ := List.getElem?_eq_some_iff.1 hr
              exact List.take_succ_eq_append_getElem hk)
            have HR := hide hr
            clear hr
            have hNb : N ≤ 2097152 := Nat.le_trans HN1.out hrl
            go_wp2_with fail
            refine (raw_any d s rs D1 k _ X2.out r HR.out (by have := HWL.out; omega)).mono ?_
            rintro e w3 ⟨v3, rfl, ho3, hb3⟩
            obtain ⟨a3, c3, rfl⟩ := ho3.slice
            have hlen3 : r.b.length ≤ 4096 := Nat.le_trans HLR.out.few hsb
            have hfew3 : r.b.length ≤ s := HLR.out.few
            have hfew : ¬ (s : Int) < (r.b.length : Int) := by omega
            have hfew1 : decide ((s : Int) < (r.b.length : Int)) = false := decide_eq_false hfew
            have hfew2 : decide (s < r.b.length) = false := decide_eq_false (by omega)
            have HB3 := hide hb3
            have HO3 := hide ho3
            clear hb3 ho3
            go_wp2_with (refine step_alloc zRw rfl ?_)
            intro w4 g14 hg14 hle14 hb4
            go_wp2_with (refine step_storeA wRw rfl rfl rfl hg14 rfl (One.rw _ _ _ _ _ _ _) rfl ?_)
            intro w5 hg5 hbut5
            have B5 : Hid (Below wr.heap.size wr w5) := hide ((HB3.out.trans (hb4.mono HB3.out.size)).trans (hbut5.below (Nat.le_trans HB3.out.size hle14)))
            have B35 : Hid (Below w3.heap.size w3 w5) := hide (hb4.trans (hbut5.below hle14))
            have G5 := hide hg5
            have k2 : w5.cell? ⟨g14, 2, none⟩ = some (.slice a3 r.b.length c3) := by rw [hg5.cell]; rfl
            clear hg14 hle14 hb4 hg5 hbut5
            go_wp2_with (refine step_loadA wRw rfl rfl G5.out rfl ?_)
            obtain ⟨a5, c5, hv5, hs5⟩ := (HO3.out.below B35.out).sl' HLR.out.1.isB (by omega)
            injection hv5 with q1 q2 q3
            subst q1 q3
            refine (done_any o s (rs.take k) Do r a3 _ c3 _ (DO.out.below B5.out) HLR.out hs5 (by have h1 := wt_take rs k; have h2 := HWL.out; omega)).mono ?_
            rintro e w6 ⟨rfl, hop6⟩
            have hop2 : OpR W1 w6 o s ⟨mo, .slice none 0 0, [], []⟩ (rs.take (k + 1)) := by
              rw [HTK.out]
              exact OpR.step (CH.out.thenBelow B5.out) OW.out RO.out hop6
            have hb6 : Below w.heap.size w w6 := by
              obtain ⟨D2, _, j2, _, _⟩ := hop2
              exact HBL.out.trans (j2.below (fun z hz hown => by have := OWO2.out z hown; omega) HBL.out.size)
            have HI6 := hide hop2
            have HB6 := hide hb6
            clear hop6 hop2 hb6 hs5 hfew hfew1 hfew2 hfew3 k2
            go_wp2
            go_roundw
            case rel => exact ⟨k + 1, by go_num, by omega, HI6.out, HB6.out⟩
            case measure => simp [intOf]; omega
          · obtain rfl : k = N := by omega
            have hlti : ¬ (k : Int) < (k : Int) := by omega
            go_wp2_with fail
            refine (after_any d s rs D1 _ X2.out k HN1.out (by have := HWL.out; omega)).mono ?_
            rintro e W4 ⟨x, Dx, rfl, hA⟩
            have HA := hide hA
            have X4 := hide (X2.out.below hA.bel)
            have O4 := hide (DO.out.below hA.bel)
            clear hA
            go_wp2_with (go_at_call 32; refine (writes_any d s rs D1 _ X4.out).mono ?_; rintro e W4 ⟨rfl, rfl⟩)
            refine (after_any d s rs D1 _ X4.out rs.length (Nat.le_refl _) (by have := HWL.out; omega)).mono ?_
            rintro e W5 ⟨y, Dy, rfl, hB⟩
            rw [List.take_length] at hB
            have HB := hide hB
            have X5 := hide (X4.out.below hB.bel)
            have O5 := hide (O4.out.below hB.bel)
            have A5 := hide (HA.out.dk.below hB.bel)
            have BW5 : Hid (Below w.heap.size w W5) := hide ((BL.out.trans (HA.out.bel.mono BL.out.size)).trans (hB.bel.mono (Nat.le_trans BL.out.size HA.out.bel.size)))
            clear hB X4 O4
            have hwk : Hid (wt (rs.take k) ≤ 16777216) := hide (by have h1 := wt_take rs k; have h2 := HWL.out; omega)
            have hlk : (rs.take k).length = k := by rw [List.length_take]; have := HN1.out; omega
            have HLK := hide hlk
            clear hlk
            go_wp2_with fail
            refine (same_any x o s s (rs.take k) (rs.take k) Dx Do true _ A5.out O5.out hwk.out hwk.out (by simp)).mono ?_
            rintro e W6 ⟨rfl, hb6⟩
            have A6 := hide (A5.out.below hb6)
            have O6 := hide (O5.out.below hb6)
            have X6 := hide (X5.out.below hb6)
            have Y6 := hide (HB.out.dk.below hb6)
            have BW6 : Hid (Below w.heap.size w W6) := hide (BW5.out.trans (hb6.mono BW5.out.size))
            clear hb6
            go_wp2_with fail
            refine (writes_any x s _ Dx _ A6.out).mono ?_
            rintro e W6 ⟨rfl, rfl⟩
            rw [HLK.out]
            go_wp2_with fail
            refine (writes_any o s _ Do _ O6.out).mono ?_
            rintro e W6 ⟨rfl, rfl⟩
            rw [HLK.out]
            go_wp2_with fail
            refine (same_any y d s s rs rs Dy D1 true _ Y6.out X6.out (by have := HWL.out; omega) (by have := HWL.out; omega) (by simp)).mono ?_
            rintro e W7 ⟨rfl, hb7⟩
            go_wp2
            go_ret
            exact ⟨by simp, BW6.out.trans (hb7.mono BW6.out.size)⟩
  · have HH := hide hs
    by_cases h1 : sec < 1
    · clear hs hL
      go_enter Try.func5, Try.ntmps5
      go_wp2_with (go_at_call 7; refine (new_bad _ _ HH.out).mono ?_; rintro e w ⟨rfl, rfl⟩)
      go_ret
      exact ⟨by simp, Below.refl _ _⟩
    · have h2 : 4096 < sec := by omega
      clear hs hL
      go_enter Try.func5, Try.ntmps5
      go_wp2_with (go_at_call 7; refine (new_bad _ _ HH.out).mono ?_; rintro e w ⟨rfl, rfl⟩)
      go_ret
      exact ⟨by simp, Below.refl _ _⟩

end Go.Proofs.Ytnkjdoghfdnlaaa
