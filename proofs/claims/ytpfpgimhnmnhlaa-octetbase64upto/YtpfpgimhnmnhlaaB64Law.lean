/-
  The walk of OctetBase64.
-/
import Derived.Test.YtpfpgimhnmnhlaaB64R
import Derived.Test.YtpfpgimhnmnhlaaUnbR
import Derived.Test.YtpfpgimhnmnhlaaSpoil
namespace Go.Proofs.Ytpfpgimhnmnhlaa
open Go.RowKit
set_option linter.unusedVariables false

theorem ubB_isB (s : ByteArray) : isB (ubB s) := by
  unfold ubB
  split
  · intro x hx; simp at hx
  · exact (pk_inv b64L (dl s) (digit_bd (dl s) (by omega)) _ (Nat.le_refl _)).o
theorem ubB_length (s : ByteArray) : (ubB s).length ≤ s.size := by
  unfold ubB
  split
  · simp
  · have h := (pk_inv b64L (dl s) (digit_bd (dl s) (by omega)) _ (Nat.le_refl _)).l
    have h2 : (dl s).length = (digs s).size := by simp [dl]
    have h3 := digs_size s
    omega

set_option maxRecDepth 100000 in
set_option maxHeartbeats 1000000 in
theorem b64_walk (a : Option Addr) (len cap : Nat) (xs : List Int) (s : ByteArray) (w : World) (hs : Sl w a len cap xs) (hlc : cap ≤ 1048576) (hz : s.size ≤ 1048576) :
    Calls Try.prog 6 #[.slice a len cap, .string s] w fun e w' => e = .returned (.bool true) ∧ Below w.heap.size w w' := by
  have HS := hide hs
  have hl : len ≤ 1048576 := by have := hs.hcap; omega
  clear hs hlc
  have HU := hide (show (ubB s).length ≤ 140737488355328 by
    have := ubB_length s
    omega)
  go_enter Try.func6, Try.ntmps6
  go_wp2_with fail
  refine (unb_any s w hz).mono ?_
  rintro e w1 ⟨x, rfl, hx, hb1⟩
  go_wp2_with fail
  refine (unb_any s w1 hz).mono ?_
  rintro e w2 ⟨y, rfl, hy, hb2⟩
  go_wp2_with fail
  refine (unbR_any s w2 hz).mono ?_
  rintro e w3 ⟨v, rfl, hv, hb3⟩
  have b12 : Below w1.heap.size w1 w2 := hb2
  have b13 : Below w1.heap.size w1 w3 := hb2.trans (hb3.mono hb2.size)
  have bw3 : Below w.heap.size w w3 := hb1.trans (b13.mono hb1.size)
  have hx3 := hx.below b13
  have hy3 := hy.below hb3
  obtain ⟨xa, xc, ex, sx⟩ := hx3.sl (ubB_isB _) HU.out
  obtain ⟨ya, yc, ey, sy⟩ := hy3.sl (ubB_isB _) HU.out
  obtain ⟨va, vc, ev, sv⟩ := hv.sl' (ubB_isB _) HU.out
  have HX := hide ex
  have apx : ∀ z, x.ownBlock = some z → z < w1.heap.size := by
    intro z hzz
    rcases hx with ⟨rfl, _⟩ | ⟨h, _⟩
    · simp [Value.ownBlock] at hzz
    · exact (World.ownsRow.lt h z hzz).2
  have apy : Hid (∀ z, ya = some z → x.ownBlock ≠ some z.block) := by
    intro z hzz h
    have h1 := apx _ h
    rcases hy with ⟨e, _⟩ | ⟨h2, _⟩
    · rw [ey] at e
      injection e with e1
      rw [e1] at hzz
      cases hzz
    · have h3 := World.ownsRow.lt h2
      rw [ey, hzz] at h3
      have := (h3 z.block rfl).1
      omega
  have apv : Hid (∀ z, va = some z → x.ownBlock ≠ some z.block) := by
    intro z hzz h
    have h1 := apx _ h
    have h3 := World.ownsRow.lt hv
    rw [ev, hzz] at h3
    have h4 := (h3 z.block rfl).1
    have h5 := b12.size
    omega
  have HX3 := hide hx3
  have SX := hide sx
  have SY := hide sy
  have SV := hide sv
  have HSB := hide (HS.out.below bw3)
  subst ex ey ev
  clear hx hy hv hx3 hy3 sx sy sv b12 b13 hb1 hb2 hb3 HX apx
  go_wp2_with (first | (refine step_toStr rfl rfl SX.out ?_) | (refine step_toStr rfl rfl SV.out ?_) | (go_at_call 29; refine (b64_any _ _ _ xs _ HSB.out hl).mono ?_; rintro e w4 ⟨rfl, hb4⟩))
  have HSC := hide (HSB.out.below hb4)
  refine (b64R_any _ _ _ xs _ HSC.out hl).mono ?_
  rintro e w5 ⟨rfl, hb5⟩
  have b35 : Below w3.heap.size w3 w5 := hb4.trans (hb5.mono hb4.size)
  have HX5 := hide (HX3.out.below b35)
  have SY5 := hide (SY.out.below b35)
  have SV5 := hide (SV.out.below b35)
  have bw5 : Below w.heap.size w w5 := bw3.trans (b35.mono bw3.size)
  clear HX3 SX SY SV HSB HSC hb4 hb5 b35 bw3
  go_wp2_with (first | (go_at_call 26; refine (spoil_newO _ _ _ _ HX5.out HU.out).mono ?_; rintro e w6 ⟨rfl, hb6, hk6⟩; have SY6 := hide (hk6 _ _ _ _ SY5.out apy.out); have SV6 := hide (hk6 _ _ _ _ SV5.out apv.out); have bw6 := hide (bw5.trans hb6); clear hk6) | (refine step_toStr rfl rfl SY6.out ?_) | (refine step_toStr rfl rfl SV6.out ?_) | (go_at_call 21; refine (names_any _).mono ?_; rintro e w' ⟨rfl, rfl⟩))
  go_ret
  exact ⟨rfl, bw6.out⟩

end Go.Proofs.Ytpfpgimhnmnhlaa
