/-
  The walk of OctetTexts.
-/
import Derived.Test.YtgfmncgdajhmfaaOTy
namespace Go.Proofs.Ytgfmncgdajhmfaa
open Go.RowKit
set_option linter.unusedVariables false

theorem newB_sl {w : World} {B : Nat} {v : Value} {xs : List Int} (h : NewB w B v xs) (hb : isB xs) (hl : xs.length ≤ 140737488355328) : ∃ a cap, v = .slice a xs.length cap ∧ Sl w a xs.length cap xs := by
  rcases h with ⟨rfl, rfl⟩ | ⟨g, rfl, _, hr⟩
  · exact ⟨none, 0, rfl, rfl, Nat.le_refl _, by omega, by simp, hb, fun _ => ⟨rfl, rfl⟩, fun h => absurd h (by simp)⟩
  · exact ⟨_, _, rfl, hr.sl hb hl⟩
theorem newO_sl {w : World} {B : Nat} {v : Value} {xs : List Int} (h : NewO w B v xs) (hb : isB xs) (hl : xs.length ≤ 140737488355328) : ∃ a cap, v = .slice a xs.length cap ∧ Sl w a xs.length cap xs := by
  rcases h with ⟨rfl, rfl⟩ | ⟨ho, hn⟩
  · exact ⟨none, 0, rfl, rfl, Nat.le_refl _, by omega, by simp, hb, fun _ => ⟨rfl, rfl⟩, fun h => absurd h (by simp)⟩
  · obtain ⟨g, cap, e, _, hs⟩ := ho.sl hb hl hn
    exact ⟨_, cap, e, hs⟩
theorem uxB_isB' (S : List UInt8) : isB (uxB S) := by
  unfold uxB
  split
  · intro x hx; simp at hx
  · rename_i h
    exact unhexB_isB S (fun q => h (.inl q))
theorem uxB_le (S : List UInt8) : (uxB S).length ≤ S.length := by
  unfold uxB
  split
  · simp
  · rw [unhexB_length]; omega
theorem ubB_isB' (s : ByteArray) : isB (ubB s) := by
  unfold ubB
  split
  · intro x hx; simp at hx
  · rename_i h
    exact (pk_inv b64L (dl s) (digit_bd (dl s) (fun q => h (.inl q))) (dl s).length (Nat.le_refl _)).o
theorem ubB_le (s : ByteArray) : (ubB s).length ≤ s.size := by
  unfold ubB
  split
  · simp
  · rename_i h
    have := (pk_inv b64L (dl s) (digit_bd (dl s) (fun q => h (.inl q))) (dl s).length (Nat.le_refl _)).l
    have h2 := digs_size s
    have h3 : (dl s).length = (digs s).size := by simp [dl]
    omega

set_option maxRecDepth 100000 in
set_option maxHeartbeats 2000000 in
theorem texts_walk (a : Option Addr) (len cap : Nat) (xs : List Int) (s : ByteArray) (w : World) (hs : Sl w a len cap xs) (hlc : cap ≤ 1048576) (hz : s.size ≤ 1048576) :
    Calls Try.prog 3 #[.slice a len cap, .string s] w fun e w' => e = .returned (.bool true) ∧ Below w.heap.size w w' := by
  have HS := hide hs
  have hcap := hs.hcap
  have HX := hide hs.hlen
  have HXB := hide hs.hbyte
  have HH := hide (uhex_forth xs hs.hbyte)
  have HB := hide (ub64_forth xs hs.hbyte)
  have HHL := hide (show (str (hexB xs)).size ≤ 8388608 by rw [str_size, hexB_length, hs.hlen]; omega)
  have HBL := hide (show (str (b64B xs)).size ≤ 8388608 by rw [str_size, b64B, b64To_length, hs.hlen]; omega)
  clear hs
  go_enter Try.func3, Try.ntmps3
  go_wp2_with fail
  refine (hex_any _ _ _ xs _ HS.out (by omega)).mono ?_
  rintro e w1 ⟨rfl, hb1⟩
  have HB1 := hide hb1
  clear hb1
  go_wp2_with fail
  refine (unhex_any (str (hexB xs)) _ HHL.out).mono ?_
  rintro e w2 ⟨vx, rfl, hx2, hb2⟩
  rw [HH.out.2] at hx2
  rw [HH.out.1]
  obtain ⟨ax, cx, ex, hsx⟩ := newB_sl hx2 HXB.out (by rw [HX.out]; omega)
  subst ex
  rw [HX.out] at hsx ⊢
  have SX2 := hide hsx
  have HB2 := hide (HB1.out.trans (hb2.mono HB1.out.size))
  have S2 := hide (HS.out.below HB2.out)
  generalize uxAt (str (hexB xs)).data.toList = at1
  clear hx2 hsx hb2
  go_wp2_with fail
  refine (b64_any _ _ _ xs _ S2.out (by omega)).mono ?_
  rintro e w3 ⟨rfl, hb3⟩
  have HB3 := hide (HB2.out.trans (hb3.mono HB2.out.size))
  have SX3 := hide (SX2.out.below hb3)
  clear hb3 SX2
  go_wp2_with fail
  refine (unb_any (str (b64B xs)) _ HBL.out).mono ?_
  rintro e w4 ⟨vy, rfl, hy4, hb4⟩
  rw [HB.out.2] at hy4
  rw [HB.out.1]
  obtain ⟨ay, cy, ey, hsy⟩ := newO_sl hy4 HXB.out (by rw [HX.out]; omega)
  subst ey
  rw [HX.out] at hsy ⊢
  have SY4 := hide hsy
  have SX4 := hide (SX3.out.below hb4)
  have HB4 := hide (HB3.out.trans (hb4.mono HB3.out.size))
  have S4 := hide (HS.out.below HB4.out)
  generalize ubAt (str (b64B xs)) = at2
  clear hy4 hsy hb4 SX3
  go_wp2_with (first | (refine step_toStr rfl rfl SX4.out ?_) | (refine step_toStr rfl rfl SY4.out ?_) | (refine step_toStr rfl rfl S4.out ?_))
  refine (unhex_any s _ (by omega)).mono ?_
  rintro e w5 ⟨vu, rfl, hu5, hb5⟩
  have HUB := hide (uxB_isB' s.data.toList)
  have HUL := hide (show (uxB s.data.toList).length ≤ 1048576 by have := uxB_le s.data.toList; have h2 : s.data.toList.length = s.size := by simp
                                                                 omega)
  have HUK := hide (uhex_back s)
  have HUE : Hid (uxE s.data.toList = 0 ∨ uxE s.data.toList = 11) := hide (by unfold uxE; split <;> simp)
  obtain ⟨au, cu, eu, hsu⟩ := newB_sl hu5 HUB.out (by have := HUL.out; omega)
  subst eu
  have SU5 := hide hsu
  have HB5 := hide (HB4.out.trans (hb5.mono HB4.out.size))
  clear hu5 hsu hb5
  revert HUE HUK SU5 HUL HUB
  generalize uxB s.data.toList = U
  generalize uxE s.data.toList = eU
  generalize uxAt s.data.toList = at3
  intro HUB HUL HUK HUE SU5
  obtain ⟨LU, hLU⟩ : ∃ LU, LU = U.length := ⟨_, rfl⟩
  have QU := hide hLU
  rw [← hLU] at SU5 HUL ⊢
  clear hLU
  go_wp2_with fail
  refine (unb_any s _ (by omega)).mono ?_
  rintro e w6 ⟨vv, rfl, hv6, hb6⟩
  have HVB := hide (ubB_isB' s)
  have HVL := hide (show (ubB s).length ≤ 1048576 by have := ubB_le s; omega)
  have HVK := hide (ub64_back s)
  have HVE : Hid (ubE s = 0 ∨ ubE s = 11) := hide (by unfold ubE; split <;> simp)
  obtain ⟨av, cv, ev, hsv⟩ := newO_sl hv6 HVB.out (by have := HVL.out; omega)
  subst ev
  have SV6 := hide hsv
  have SU6 := hide (SU5.out.below hb6)
  have HB6 := hide (HB5.out.trans (hb6.mono HB5.out.size))
  clear hv6 hsv hb6 SU5
  revert HVE HVK SV6 HVL HVB
  generalize ubB s = V
  generalize ubE s = eV
  generalize ubAt s = at4
  intro HVB HVL HVK HVE SV6
  obtain ⟨LV, hLV⟩ : ∃ LV, LV = V.length := ⟨_, rfl⟩
  have QV := hide hLV
  rw [← hLV] at SV6 HVL ⊢
  clear hLV
  have hUL := HUL.out
  have hVL := HVL.out
  rcases HUE.out with e1 | e1
  · subst e1
    have KU := hide (HUK.out rfl)
    clear HUK
    rcases HVE.out with e2 | e2
    · subst e2
      have KV := hide (HVK.out rfl)
      clear HVK
      go_wp2_with fail
      refine (hex_any _ _ _ U _ SU6.out (by omega)).mono ?_
      rintro e w7 ⟨rfl, hb7⟩
      rw [KU.out]
      have SV7 := hide (SV6.out.below hb7)
      go_wp2_with fail
      refine (b64_any _ _ _ V _ SV7.out (by omega)).mono ?_
      rintro e w8 ⟨rfl, hb8⟩
      rw [KV.out]
      go_wp2
      go_ret
      exact ⟨rfl, HB6.out.trans ((hb7.mono HB6.out.size).trans (hb8.mono (Nat.le_trans HB6.out.size hb7.size)))⟩
    · subst e2
      go_wp2_with fail
      refine (hex_any _ _ _ U _ SU6.out (by omega)).mono ?_
      rintro e w7 ⟨rfl, hb7⟩
      rw [KU.out]
      go_wp2
      go_ret
      exact ⟨rfl, HB6.out.trans (hb7.mono HB6.out.size)⟩
  · subst e1
    rcases HVE.out with e2 | e2
    · subst e2
      have KV := hide (HVK.out rfl)
      clear HVK
      go_wp2_with fail
      refine (b64_any _ _ _ V _ SV6.out (by omega)).mono ?_
      rintro e w8 ⟨rfl, hb8⟩
      rw [KV.out]
      go_wp2
      go_ret
      exact ⟨rfl, HB6.out.trans (hb8.mono HB6.out.size)⟩
    · subst e2
      go_wp2
      go_ret
      exact ⟨rfl, HB6.out⟩

end Go.Proofs.Ytgfmncgdajhmfaa
