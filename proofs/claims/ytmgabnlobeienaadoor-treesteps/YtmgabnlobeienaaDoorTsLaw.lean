/-
  The walk of TreeSteps.
-/
import Derived.Test.YtmgabnlobeienaaDoorCz
import Derived.Test.YtmgabnlobeienaaDoorTo
namespace Go.Proofs.YtmgabnlobeienaaDoor
open Go.RowKit
set_option linter.unusedVariables false

set_option maxRecDepth 100000 in
set_option maxHeartbeats 4000000 in
theorem steps_walk (a : Option Addr) (n cap : Nat) (xs : List Int) (i m : Int) (w : World) (hs : Ds w a n cap xs) (hc : cap ≤ 4398046510976) (hi : (Lit.int .i64 i).wf = true) (hm : (Lit.int .i64 m).wf = true) (hk : KT w) :
    Calls Tryd.prog 6 #[.slice a n cap, .int .i64 i, .int .i64 m] w fun e w' => e = .returned (.bool true) ∧ Below w.heap.size w w' := by
  have HK := hide hk
  have HS := hide hs
  have hcap := hs.hcap
  have HXB := hide hs.hbyte
  have HPB := hide (coP_bd i m hs.hlen hs.hbyte (by omega))
  obtain ⟨se, HSE⟩ : ∃ se, Hid (coE n i m = se) := ⟨_, hide rfl⟩
  obtain ⟨P, HP⟩ : ∃ P, Hid (coP xs n i m = P) := ⟨_, hide rfl⟩
  rw [HP.out] at HPB
  clear hs hk hi hm
  go_enter Tryd.func6, Tryd.ntmps6
  have ho0 := down_empty w
  have hb0 : Below w.heap.size w (w.alloc (.cells #[] 24)) := (Below.refl _ _).alloc (Nat.le_refl _) _
  go_wp2_with (refine step_appendD rfl rfl rfl ho0 (HS.out.below hb0) (by omega) (by simp) ?_)
  intro v2 w2 ho2 hg2
  rw [List.nil_append, Nat.zero_add] at ho2
  have HB2 := hide (hb0.trans (Below.of_grown hg2 (by simp) ho0.lt))
  obtain ⟨a2, c2, rfl, hs2, _⟩ := ho2.ds HXB.out (by omega)
  have SI := hide hs2
  have K2 := hide (HK.out.below HB2.out HK.out.lt)
  clear ho0 hb0 ho2 hg2 hs2
  go_wp2_with fail
  refine (cons_any _ _ _ xs i m _ SI.out K2.out).mono ?_
  rintro r w3 ⟨x, rfl, ⟨q1, ho3⟩, hb3⟩
  rw [HP.out] at ho3
  rw [HSE.out]
  have OX := hide ho3
  have HB3 := hide hb3
  have SI3 := hide (SI.out.below hb3)
  have K3 := hide (K2.out.below hb3 K2.out.lt)
  clear ho3 hb3 K2
  go_wp2_with fail
  refine (cons_any _ _ _ xs i m _ SI3.out K3.out).mono ?_
  rintro r w4 ⟨y, rfl, ⟨q2, ho4⟩, hb4⟩
  rw [HP.out] at ho4
  rw [HSE.out]
  have OY := hide ho4
  have HB4 := hide hb4
  clear ho4 hb4 SI3 K3
  have HW4 := hide ((HB2.out.trans (HB3.out.mono HB2.out.size)).trans (HB4.out.mono (Nat.le_trans HB2.out.size HB3.out.size)))
  go_wp2_with fail
  refine (consR_any _ _ _ xs i m _ (HS.out.below HW4.out)).mono ?_
  rintro r w5 ⟨z, rfl, ⟨q3, ho5⟩, hb5⟩
  rw [HP.out] at ho5
  rw [HSE.out]
  obtain ⟨⟨q, hq, hq64⟩, hPB⟩ := HPB.out
  obtain rfl : q1 = q := by have := OX.out.len; omega
  obtain rfl : q2 = q1 := by have := OY.out.len; omega
  obtain rfl : q3 = q2 := by have := ho5.len; omega
  have OY5 := OY.out.below hb5
  have OX5 := hide ((OX.out.below HB4.out).below hb5)
  obtain ⟨ay, cy, rfl, hy, hny⟩ := OY5.ds hPB (by omega)
  obtain ⟨aw, cw, rfl, hz, hnz⟩ := ho5.ds hPB (by omega)
  have HY := hide hy
  have HZ := hide hz
  have s3 := HB3.out.size
  have s4 := HB4.out.size
  have ny : ∀ g ad, x.ownBlock = some g → ay = some ad → ad.block ≠ g := fun g ad hg ha => by
    have h1 := (World.ownsRow.lt OX.out g hg).2
    have h2 := hny ad ha
    omega
  have nw : ∀ g ad, x.ownBlock = some g → aw = some ad → ad.block ≠ g := fun g ad hg ha => by
    have h1 := (World.ownsRow.lt OX.out g hg).2
    have h2 := hnz ad ha
    omega
  have HB25 := hide ((HB3.out.trans (HB4.out.mono HB3.out.size)).trans (hb5.mono (Nat.le_trans HB3.out.size HB4.out.size)))
  have HPQ := hide hPB
  clear hy hz OY OY5 ho5 hb5 hny hnz HW4 hq HPB HB3 HB4 OX hPB s3 s4
  go_wp2_with fail
  refine (told_any x w2.heap.size _ P _ _ _ _ _ OX5.out HPQ.out (by omega) HB25.out.size HY.out HZ.out ny nw).mono ?_
  rintro r w6 ⟨rfl, hb6⟩
  have HB26 := hide (HB25.out.trans hb6)
  have SI6 := hide (SI.out.below HB26.out)
  have HB6 := hide (HB2.out.trans (HB26.out.mono HB2.out.size))
  have S6 := hide (HS.out.below HB6.out)
  clear hb6 HB25 OX5 HY HZ ny nw SI
  go_wp2_with (first | (go_at_call 21; refine (same_any _ _ _ _ _ xs _ SI6.out S6.out).mono ?_; rintro r w7 ⟨rfl, hb7⟩) | (go_at_call 16; refine (names4_any _).mono ?_; rintro r wz ⟨rfl, rfl⟩))
  go_ret
  exact ⟨rfl, HB6.out.trans (hb7.mono HB6.out.size)⟩

end Go.Proofs.YtmgabnlobeienaaDoor
